/- pack.Bytes, as a contract. -/
import Derived.Test.YtdphdodjidbngaaGreatPaQ
import Derived.Test.YtdphdodjidbngaaGreatMsP
import Derived.Test.YtdphdodjidbngaaGreatPaP
import Derived.Test.YtdphdodjidbngaaGreatGaP
namespace Go.Proofs.YtdphdodjidbngaaGreat
open Go.RowKit Go.Sort
set_option linter.unusedVariables false
set_option linter.unusedSimpArgs false

/-- The first numbers of a packet, one behind the other. -/
def pre4 (xs : List Int) (j : Nat) : List UInt8 := ((xs.take j).map fun n => numB (cl n)).flatten
theorem pre4_succ (xs : List Int) (j : Nat) (h : j < xs.length) : pre4 xs (j + 1) = pre4 xs j ++ numB (cl (xs.getD j 0)) := by
  have e1 : xs.take (j + 1) = xs.take j ++ [xs[j]] := by rw [List.take_add_one, List.getElem?_eq_getElem h]; rfl
  rw [pre4, pre4, e1, List.map_append, List.flatten_append, List.getD_eq_getElem?_getD, List.getElem?_eq_getElem h]
  simp
theorem pre4_len (xs : List Int) (j : Nat) : (pre4 xs j).length ≤ 8 * j := by
  induction j with
  | zero => simp [pre4]
  | succ j ih =>
    by_cases h : j < xs.length
    · have := (numB_length _ (cl_le (xs.getD j 0))).2
      rw [pre4_succ xs j h, List.length_append]; omega
    · have e : xs.take (j + 1) = xs.take j := by rw [List.take_of_length_le (by omega), List.take_of_length_le (by omega)]
      rw [pre4, e]
      exact Nat.le_trans ih (by omega)
/-- A slice that reads as bytes, a packet's block, nothing old touched. -/
structure BSt (W w : World) (v : Value) (L : List UInt8) (k f t i p s : Int) (b : ByteArray) : Prop where
  v : ∃ A c, v = .slice A L.length c ∧ IsBytes w A L.length c L
  m : Pc 90 w W.heap.size k f t i p s b
  bel : Below W.heap.size W w
def OkStr (W : World) (x : ByteArray) (e : Ending) (w' : World) : Prop := e = .returned (.string x) ∧ Below W.heap.size W w'

set_option maxRecDepth 20000 in
set_option maxHeartbeats 4000000 in
theorem pbytes_ok (k : Nat) (f t i p s : Int) (b : ByteArray) (hb : b.size ≤ 1000) (hc : okP k f t i p s b.data.toList = true) (W : World) :
    Calls Tryz.prog 30 #[.agg #[.int .i64 k, .int .i64 f, .int .i64 t, .int .i64 i, .int .i64 p, .int .i64 s, .string b]] W (OkStr W (str (frP (plB k f t i p s b.data.toList)))) := by
  have hk4 : k ≤ 4 := by have := (okP_iff hc).1; omega
  have HC := hid (fun w => pkcheck_any k f t i p s b w)
  rw [hc] at HC
  have HHP := hid (hasPeer_any k hk4)
  have HHS := hid (hasSeq_any k hk4)
  have HHB := hid (hasBody_any k hk4)
  have HXS := hid (pre4_succ [(k : Int), f, t, i])
  have hln := pre4_len [(k : Int), f, t, i]
  have HPL : Hid (plB k f t i p s b.data.toList = pre4 [(k : Int), f, t, i] 4 ++ pt (hpP k) p ++ pt (hpS k) s ++ ptT (hpB k) b.data.toList) := hid (by
    rw [plB, pre4]
    simp only [Int.toNat_natCast, List.take_succ_cons, List.take_zero, List.map_cons, List.map_nil, List.flatten_cons, List.flatten_nil, List.append_nil, List.append_assoc]
    rfl)
  have l1 := pt_len (hpP k) p
  have l2 := pt_len (hpS k) s
  have HBL := hid (show b.data.toList.length = b.size by rw [Array.length_toList]; rfl)
  have HCL : ∀ j, j < 4 → (#[Value.int .i64 (k : Int), .int .i64 f, .int .i64 t, .int .i64 i] : Array Value)[j]? = some (.int .i64 ([(k : Int), f, t, i].getD j 0)) := fun j hj => by
    rcases (by omega : j = 0 ∨ j = 1 ∨ j = 2 ∨ j = 3) with rfl | rfl | rfl | rfl <;> rfl
  have HCLH := hid HCL
  clear HCL hc hk4
  obtain ⟨OUT, hOUT⟩ : ∃ x, str (frP (plB k f t i p s b.data.toList)) = x := ⟨_, rfl⟩
  rw [hOUT]
  have HOUT := hid hOUT
  clear hOUT
  have hx4 : ([(k : Int), f, t, i] : List Int).length = 4 := rfl
  rw [hx4] at HXS
  clear hx4
  have k0 : Pc 90 (W.alloc (.cells #[.int .i64 k, .int .i64 f, .int .i64 t, .int .i64 i, .int .i64 p, .int .i64 s, .string b] 90)) W.heap.size k f t i p s b := heap_alloc_new _ _
  have hb0 : Below W.heap.size W (W.alloc (.cells #[.int .i64 k, .int .i64 f, .int .i64 t, .int .i64 i, .int .i64 p, .int .i64 s, .string b] 90)) := (Below.refl _ _).alloc (Nat.le_refl _) _
  go_enter Tryz.func30, Tryz.ntmps30
  go_upto_region 1 with (fail)
  refine at_world (fun w => Pc 90 w W.heap.size k f t i p s b ∧ Below W.heap.size W w) ⟨k0, hb0⟩ ?_
  clear k0 hb0
  rintro w1 ⟨hm1, hB1⟩
  obtain ⟨⟨p0, p1, p2, p3, p4, p5, p6⟩, f0, f1, f2, f3, f4, f5, f6⟩ := seven_cells hm1
  go_wp2_with fail
  refine (HC.out _).mono ?_
  rintro x w2 ⟨rfl, hb2⟩
  have HM2 := hid (show Pc 90 w2 W.heap.size k f t i p s b from keep0 hm1 hb2)
  have HB2 := hid (hB1.trans (hb2.mono hB1.size))
  clear hm1 hB1 hb2 HC p0 p1 p2 p3 p4 p5 p6 f0 f1 f2 f3 f4 f5 f6
  obtain ⟨⟨p0, p1, p2, p3, p4, p5, p6⟩, f0, f1, f2, f3, f4, f5, f6⟩ := seven_cells HM2.out
  have HX2 : Hid ((w2.alloc (.cells #[.int .i64 k, .int .i64 f, .int .i64 t, .int .i64 i] 3)).heap[w2.heap.size]? = some (.cells #[.int .i64 k, .int .i64 f, .int .i64 t, .int .i64 i] 3 (0, 0))) := hid (heap_alloc_new _ _)
  have HM3 := hid (show Pc 90 (w2.alloc (.cells #[.int .i64 k, .int .i64 f, .int .i64 t, .int .i64 i] 3)) W.heap.size k f t i p s b from keep0 HM2.out ((Below.refl _ _).alloc (Nat.le_refl _) _))
  have HB3 := hid (HB2.out.alloc HB2.out.size (.cells #[.int .i64 k, .int .i64 f, .int .i64 t, .int .i64 i] 3))
  clear HM2
  go_wp2_with fail
  have hX2 := HX2.out
  clear HX2 p0 p1 p2 p3 p4 p5 p6 f0 f1 f2 f3 f4 f5 f6
  generalize w2.heap.size = X at hX2 ⊢
  have H3 := hid (And.intro hX2 (And.intro HM3.out HB3.out))
  clear hX2 HM3 HB3 HB2
  go_loopw [3, 19] (fun bv iv wr => ∃ j : Nat, j ≤ 4 ∧ iv = .int .i64 (j : Int) ∧ Hid (wr.heap[X]? = some (.cells #[.int .i64 k, .int .i64 f, .int .i64 t, .int .i64 i] 3 (0, 0))) ∧ Hid (BSt W wr bv (pre4 [(k : Int), f, t, i] j) k f t i p s b)) (fun _ iv _ => 4 - (intOf iv).toNat)
  case atStart => exact ⟨0, by omega, rfl, H3.out.1, ⟨⟨none, 0, rfl, isBytes_nil _ _ _ (Nat.zero_le _)⟩, H3.out.2.1, H3.out.2.2⟩⟩
  case round =>
    obtain ⟨j, hj, rfl, HX, HS⟩ := hrel
    clear H3
    obtain ⟨A, c, rfl, hs⟩ := HS.out.v
    have hlj := hln j
    by_cases hlt : j < 4
    · have hlt2 : (j : Int) < 4 := by omega
      have hc := cell_of_row wr X j _ _ _ HX.out
      rw [HCLH.out j hlt] at hc
      have HSU := hid (HXS.out j hlt)
      have HN := hid (num_any A (pre4 [(k : Int), f, t, i] j).length c _ ([(k : Int), f, t, i].getD j 0) wr hs (by omega))
      clear hs
      generalize [(k : Int), f, t, i].getD j 0 = x at *
      generalize pre4 [(k : Int), f, t, i] j = L at *
      obtain ⟨L2, hL2⟩ : ∃ L2, pre4 [(k : Int), f, t, i] (j + 1) = L2 := ⟨_, rfl⟩
      rw [hL2] at HSU
      have HL2 := hid hL2
      clear hL2
      have HLJ := hid hlj
      clear hlj
      go_wp2_with fail
      refine HN.out.mono ?_
      rintro y w4 ⟨v, rfl, ho, hb4⟩
      rw [← List.length_append, ← HSU.out] at ho
      obtain ⟨A4, c4, rfl, hs4⟩ := own_bytes ho
      have HS4 : Hid (BSt W w4 (.slice A4 L2.length c4) L2 k f t i p s b) := hid ⟨⟨A4, c4, rfl, hs4⟩, keep0 HS.out.m hb4, HS.out.bel.trans (hb4.mono HS.out.bel.size)⟩
      have HX4 := hid (keep0 HX.out hb4)
      clear ho hs4 hb4 HN HS HX hc
      go_wp2
      go_roundw
      case rel => exact ⟨j + 1, by omega, by go_num, HX4.out, by rw [Hid, HL2.out]; exact HS4.out⟩
      case measure => simp [intOf]; omega
    · obtain rfl : j = 4 := by omega
      clear hlt hj HX hs
      obtain ⟨L0, hL0⟩ : ∃ L0, pre4 [(k : Int), f, t, i] 4 = L0 := ⟨_, rfl⟩
      rw [hL0] at HPL hlj ⊢
      have HS0 : Hid (BSt W wr (.slice A L0.length c) L0 k f t i p s b) := hid (by rw [← hL0]; exact HS.out)
      clear hL0 HS hln HXS HCLH
      generalize hpP k = hp at *
      generalize hpS k = hq at *
      generalize hpB k = hr at *
      obtain ⟨L1, hL1⟩ : ∃ L1, L0 ++ pt hp p = L1 := ⟨_, rfl⟩
      obtain ⟨L2, hL2⟩ : ∃ L2, L1 ++ pt hq s = L2 := ⟨_, rfl⟩
      obtain ⟨L3, hL3⟩ : ∃ L3, L2 ++ ptT hr b.data.toList = L3 := ⟨_, rfl⟩
      have hl1 : L1.length ≤ 40 := by rw [← hL1, List.length_append]; omega
      have hl2 : L2.length ≤ 48 := by rw [← hL2, List.length_append]; omega
      rw [hL1, hL2, hL3] at HPL
      have HL1 := hid hL1
      have HL2 := hid hL2
      have HL3 := hid hL3
      have HLL := hid (And.intro hlj (And.intro hl1 hl2))
      clear hL1 hL2 hL3 l1 l2 hlj hl1 hl2
      obtain ⟨⟨p0, p1, p2, p3, p4, p5, p6⟩, f0, f1, f2, f3, f4, f5, f6⟩ := seven_cells HS0.out.m
      go_upto_if 29 with (go_at_call 52; refine (HHP.out _).mono ?_; rintro y w' ⟨rfl, rfl⟩)
      go_cut [3] from 30 to 33 (fun v wx => Hid (BSt W wx v L1 k f t i p s b))
      case first =>
        cases hp
        case false =>
          go_wp2
          go_meet
          obtain rfl : L0 = L1 := by rw [← HL1.out]; simp [pt]
          exact HS0.out
        case true =>
          have HN : Hid (Calls Tryz.prog 51 #[.slice A L0.length c, .int .i64 p] wr fun e w' => ∃ v, e = .returned v ∧ w'.ownsRow wr.heap.size 5 1 v (L0.length + (numB (cl p)).length) (bcells (L0 ++ numB (cl p))) ∧ Below wr.heap.size wr w') := hid (by
            obtain ⟨A', c', h1, h2⟩ := HS0.out.v
            cases h1
            exact num_any A _ c _ p wr h2 (by have := HLL.out; omega))
          go_wp2_with fail
          refine HN.out.mono ?_
          rintro y w4 ⟨v, rfl, ho, hb4⟩
          rw [← List.length_append, show L0 ++ numB (cl p) = L1 from HL1.out] at ho
          obtain ⟨A4, c4, rfl, hs4⟩ := own_bytes ho
          have HS4 : Hid (BSt W w4 (.slice A4 L1.length c4) L1 k f t i p s b) := hid ⟨⟨A4, c4, rfl, hs4⟩, keep0 HS0.out.m hb4, HS0.out.bel.trans (hb4.mono HS0.out.bel.size)⟩
          clear ho hs4 hb4 HN
          go_wp2
          go_meet
          exact HS4.out
      case rest =>
        clear HS0 HL1 HHP p0 p1 p2 p3 p4 p5 p6 f0 f1 f2 f3 f4 f5 f6
        have HS0 := hid hcut.out
        obtain ⟨A, c, rfl, hs⟩ := HS0.out.v
        clear hs hcut
        obtain ⟨⟨p0, p1, p2, p3, p4, p5, p6⟩, f0, f1, f2, f3, f4, f5, f6⟩ := seven_cells HS0.out.m
        go_upto_if 36 with (go_at_call 53; refine (HHS.out _).mono ?_; rintro y w' ⟨rfl, rfl⟩)
        go_cut [3] from 37 to 40 (fun v wx => Hid (BSt W wx v L2 k f t i p s b))
        case first =>
          cases hq
          case false =>
            go_wp2
            go_meet
            obtain rfl : L1 = L2 := by rw [← HL2.out]; simp [pt]
            exact HS0.out
          case true =>
            have HN : Hid (Calls Tryz.prog 51 #[.slice A L1.length c, .int .i64 s] wc fun e w' => ∃ v, e = .returned v ∧ w'.ownsRow wc.heap.size 5 1 v (L1.length + (numB (cl s)).length) (bcells (L1 ++ numB (cl s))) ∧ Below wc.heap.size wc w') := hid (by
              obtain ⟨A', c', h1, h2⟩ := HS0.out.v
              cases h1
              exact num_any A _ c _ s wc h2 (by have := HLL.out; omega))
            go_wp2_with fail
            refine HN.out.mono ?_
            rintro y w4 ⟨v, rfl, ho, hb4⟩
            rw [← List.length_append, show L1 ++ numB (cl s) = L2 from HL2.out] at ho
            obtain ⟨A4, c4, rfl, hs4⟩ := own_bytes ho
            have HS4 : Hid (BSt W w4 (.slice A4 L2.length c4) L2 k f t i p s b) := hid ⟨⟨A4, c4, rfl, hs4⟩, keep0 HS0.out.m hb4, HS0.out.bel.trans (hb4.mono HS0.out.bel.size)⟩
            clear ho hs4 hb4 HN
            go_wp2
            go_meet
            exact HS4.out
        case rest =>
          clear HS0 HL2 HHS p0 p1 p2 p3 p4 p5 p6 f0 f1 f2 f3 f4 f5 f6
          have HS0 := hid hcut.out
          obtain ⟨A, c, rfl, hs⟩ := HS0.out.v
          clear hs hcut
          obtain ⟨⟨p0, p1, p2, p3, p4, p5, p6⟩, f0, f1, f2, f3, f4, f5, f6⟩ := seven_cells HS0.out.m
          go_upto_if 43 with (go_at_call 54; refine (HHB.out _).mono ?_; rintro y w' ⟨rfl, rfl⟩)
          go_cut [3] from 44 to 47 (fun v wx => Hid (BSt W wx v L3 k f t i p s b))
          case first =>
            cases hr
            case false =>
              go_wp2
              go_meet
              obtain rfl : L2 = L3 := by rw [← HL3.out]; simp [ptT]
              exact HS0.out
            case true =>
              have HN : Hid (Calls Tryz.prog 55 #[.slice A L2.length c, .string b] wc fun e w' => ∃ v, e = .returned v ∧ w'.ownsRow wc.heap.size 5 1 v L3.length (bcells L3) ∧ Below wc.heap.size wc w') := hid (by
                obtain ⟨A', c', h1, h2⟩ := HS0.out.v
                cases h1
                have h3 := text_any A _ c L2 b wc h2 (by have := HLL.out; omega) (by omega)
                have h4 : L2 ++ numB b.size ++ b.data.toList = L3 := by rw [← HL3.out, ptT, if_pos rfl, HBL.out, List.append_assoc]
                have h5 : L2.length + (numB b.size).length + b.size = L3.length := by rw [← h4, List.length_append, List.length_append, HBL.out]
                rw [h4, h5] at h3
                exact h3)
              go_wp2_with fail
              refine HN.out.mono ?_
              rintro y w4 ⟨v, rfl, ho, hb4⟩
              obtain ⟨A4, c4, rfl, hs4⟩ := own_bytes ho
              have HS4 : Hid (BSt W w4 (.slice A4 L3.length c4) L3 k f t i p s b) := hid ⟨⟨A4, c4, rfl, hs4⟩, keep0 HS0.out.m hb4, HS0.out.bel.trans (hb4.mono HS0.out.bel.size)⟩
              clear ho hs4 hb4 HN
              go_wp2
              go_meet
              exact HS4.out
          case rest =>
            have HL3L : Hid (L3.length ≤ 2000) := hid (by
              rw [← HL3.out, List.length_append]
              have := HLL.out
              have h9 : (ptT hr b.data.toList).length ≤ 8 + b.size := by
                cases hr with
                | false => simp [ptT]
                | true =>
                  have := (numB_length b.data.toList.length (by rw [HBL.out]; omega)).2
                  simp only [ptT, if_true, List.length_append, HBL.out] at this ⊢
                  omega
              omega)
            clear HS0 HL3 HHB p0 p1 p2 p3 p4 p5 p6 f0 f1 f2 f3 f4 f5 f6 HBL HLL
            have HS0 := hid hcut.out
            obtain ⟨A, c, rfl, hs⟩ := HS0.out.v
            have hcv := convS3 hs
            have hst : (str L3).data.toList = L3 := by simp [str]
            have HPU := hid (fput_any none 0 0 [] (str L3) wc (isBytes_nil _ _ _ (Nat.zero_le _)) (by simp) (by rw [str_size]; have := HL3L.out; omega))
            rw [hst, List.nil_append] at HPU
            rw [HPL.out] at HOUT
            have HB0 := hid HS0.out.bel
            clear hs hcut HS0 hst HL3L
            generalize frP L3 = fr at *
            go_wp2_with fail
            refine HPU.out.mono ?_
            rintro y w4 ⟨A4, c4, rfl, ho, hb4⟩
            obtain ⟨A5, c5, h5, hs5⟩ := own_bytes ho
            cases h5
            have hcv2 := convS3 hs5
            have HB4 := hid (HB0.out.trans (hb4.mono HB0.out.size))
            clear hs5 ho hb4 HPU hcv
            generalize fr.length = n at *
            generalize str fr = sf at *
            go_wp2
            go_ret
            exact ⟨by rw [HOUT.out]; rfl, HB4.out⟩
end Go.Proofs.YtdphdodjidbngaaGreat

namespace Go.Proofs.YtdphdodjidbngaaGreat
open Go.RowKit Go.Sort
set_option linter.unusedVariables false
set_option linter.unusedSimpArgs false

theorem pbytes_no (k f t i p s : Int) (b : ByteArray) (hc : okP k f t i p s b.data.toList = false) (W : World) :
    Calls Tryz.prog 30 #[.agg #[.int .i64 k, .int .i64 f, .int .i64 t, .int .i64 i, .int .i64 p, .int .i64 s, .string b]] W (OkStr W ⟨#[]⟩) := by
  have HC := hid (fun w => pkcheck_any k f t i p s b w)
  rw [hc] at HC
  clear hc
  go_enter Tryz.func30, Tryz.ntmps30
  go_upto_region 1 with (fail)
  refine at_world (fun w => Pc 90 w W.heap.size k f t i p s b ∧ Below W.heap.size W w) ⟨heap_alloc_new _ _, (Below.refl _ _).alloc (Nat.le_refl _) _⟩ ?_
  rintro w1 ⟨hm1, hB1⟩
  obtain ⟨⟨p0, p1, p2, p3, p4, p5, p6⟩, f0, f1, f2, f3, f4, f5, f6⟩ := seven_cells hm1
  go_wp2_with (go_at_call 50; refine (HC.out _).mono ?_; rintro x w2 ⟨rfl, hb2⟩)
  go_ret
  exact ⟨rfl, hB1.trans (hb2.mono hB1.size)⟩
/-- What Bytes tells of a packet. -/
def pbS (k f t i p s : Int) (b : ByteArray) : ByteArray := if okP k f t i p s b.data.toList then str (frP (plB k f t i p s b.data.toList)) else ⟨#[]⟩
theorem pbytes_any (k f t i p s : Int) (b : ByteArray) (hb : b.size ≤ 1000) (W : World) :
    Calls Tryz.prog 30 #[.agg #[.int .i64 k, .int .i64 f, .int .i64 t, .int .i64 i, .int .i64 p, .int .i64 s, .string b]] W fun e w' => e = .returned (.string (pbS k f t i p s b)) ∧ Below W.heap.size W w' := by
  cases hc : okP k f t i p s b.data.toList with
  | true =>
    rw [pbS, if_pos hc]
    obtain ⟨n, rfl⟩ : ∃ n : Nat, k = n := ⟨k.toNat, by have := (okP_iff hc).1; omega⟩
    exact pbytes_ok n f t i p s b hb hc W
  | false =>
    rw [pbS, if_neg (by simp [hc])]
    exact pbytes_no k f t i p s b hc W
end Go.Proofs.YtdphdodjidbngaaGreat

namespace Go.Proofs.YtdphdodjidbngaaGreat
open Go.RowKit Go.Sort
set_option linter.unusedVariables false
set_option linter.unusedSimpArgs false

theorem strapp (a b : List UInt8) : str a ++ str b = str (a ++ b) := bapp a b
/-- A string, a packet's block, nothing old touched. -/
structure CSt (W w : World) (k f t i p s : Int) (b : ByteArray) : Prop where
  m : Pc 30 w W.heap.size k f t i p s b
  bel : Below W.heap.size W w
set_option maxRecDepth 20000 in
set_option maxHeartbeats 4000000 in
theorem rpbytes_ok (k : Nat) (f t i p s : Int) (b : ByteArray) (hb : b.size ≤ 1000) (hc : okP k f t i p s b.data.toList = true) (W : World) :
    Calls Tryz.prog 12 #[.agg #[.int .i64 k, .int .i64 f, .int .i64 t, .int .i64 i, .int .i64 p, .int .i64 s, .string b]] W (OkStr W (str (frP (plB k f t i p s b.data.toList)))) := by
  have hk4 : 1 ≤ k ∧ k ≤ 4 := by have := (okP_iff hc).1; omega
  have HC := hid (fun w => rcheck_any k f t i p s b w)
  rw [hc] at HC
  have HBL := hid (show b.data.toList.length = b.size by rw [Array.length_toList]; rfl)
  have HPL : Hid (plB k f t i p s b.data.toList = numB (cl k) ++ numB (cl f) ++ numB (cl t) ++ numB (cl i) ++ pt (hpP k) p ++ pt (hpS k) s ++ ptT (hpB k) b.data.toList) := hid (by
    rw [plB]
    simp only [Int.toNat_natCast]
    rfl)
  have l0 := (numB_length _ (cl_le (k : Int))).2
  have l1 := (numB_length _ (cl_le f)).2
  have l2 := (numB_length _ (cl_le t)).2
  have l3 := (numB_length _ (cl_le i)).2
  have l4 := (numB_length _ (cl_le p)).2
  have l5 := (numB_length _ (cl_le s)).2
  have N0 := hid (fun w => rnum_any k w)
  have N1 := hid (fun w => rnum_any f w)
  have N2 := hid (fun w => rnum_any t w)
  have N3 := hid (fun w => rnum_any i w)
  have N4 := hid (fun w => rnum_any p w)
  have N5 := hid (fun w => rnum_any s w)
  have NT := hid (fun w => rtext_any b w (by omega))
  obtain ⟨tx, htx⟩ : ∃ tx, str (numB b.size) ++ b = tx := ⟨_, rfl⟩
  rw [htx] at NT
  have HTX := hid htx
  clear htx
  obtain ⟨OUT, hOUT⟩ : ∃ x, str (frP (plB k f t i p s b.data.toList)) = x := ⟨_, rfl⟩
  rw [hOUT]
  rw [HPL.out] at hOUT
  have HPT4 : Hid (pt (hpP k) p = if hpP k then numB (cl p) else []) := hid rfl
  have HPT5 : Hid (pt (hpS k) s = if hpS k then numB (cl s) else []) := hid rfl
  have HPT6 : Hid (ptT (hpB k) b.data.toList = if hpB k then numB b.data.toList.length ++ b.data.toList else []) := hid rfl
  rw [HPT4.out, HPT5.out, HPT6.out, HBL.out] at hOUT
  clear HPT4 HPT5 HPT6 HPL
  generalize numB (cl (k : Int)) = q0 at *
  generalize numB (cl f) = q1 at *
  generalize numB (cl t) = q2 at *
  generalize numB (cl i) = q3 at *
  generalize numB (cl p) = q4 at *
  generalize numB (cl s) = q5 at *
  have HOUT := hid hOUT
  clear hOUT hc
  have HL := hid (And.intro l0 (And.intro l1 (And.intro l2 (And.intro l3 (And.intro l4 l5)))))
  have z0 : (str q0).size + (str q1).size ≤ 16 := by rw [str_size, str_size]; omega
  have z1 : (str q0 ++ str q1).size + (str q2).size ≤ 24 := by rw [ByteArray.size_append, str_size, str_size, str_size]; omega
  have z2 : (str q0 ++ str q1 ++ str q2).size + (str q3).size ≤ 32 := by rw [ByteArray.size_append, ByteArray.size_append, str_size, str_size, str_size, str_size]; omega
  clear l0 l1 l2 l3 l4 l5
  go_enter Tryz.func12, Tryz.ntmps12
  go_upto_region 1 with (fail)
  refine at_world (fun w => CSt W w k f t i p s b) ⟨heap_alloc_new _ _, (Below.refl _ _).alloc (Nat.le_refl _) _⟩ ?_
  rintro w1 hS1
  obtain ⟨⟨p0, p1, p2, p3, p4, p5, p6⟩, f0, f1, f2, f3, f4, f5, f6⟩ := seven_cells hS1.m
  go_wp2_with fail
  refine (HC.out _).mono ?_
  rintro x w2 ⟨rfl, hb2⟩
  have HS2 := hid (show CSt W w2 k f t i p s b from ⟨keep0 hS1.m hb2, hS1.bel.trans (hb2.mono hS1.bel.size)⟩)
  clear hS1 hb2 HC p0 p1 p2 p3 p4 p5 p6 f0 f1 f2 f3 f4 f5 f6
  go_upto_region 3 with (fail)
  obtain ⟨⟨p0, p1, p2, p3, p4, p5, p6⟩, f0, f1, f2, f3, f4, f5, f6⟩ := seven_cells HS2.out.m
  clear f0 f1 f2 f3 f4 f5 f6 p4 p5 p6
  replace p0 := cell_regrown p0
  replace p1 := cell_regrown p1
  replace p2 := cell_regrown p2
  replace p3 := cell_regrown p3
  have c0 := reg (w := w2) (fun W' _ => N0.out W')
  have c1 := reg (w := w2) (fun W' _ => N1.out W')
  have c2 := reg (w := w2) (fun W' _ => N2.out W')
  have c3 := reg (w := w2) (fun W' _ => N3.out W')
  refine wp_region_quiet_below (by kernel_rfl) (by kernel_rfl) ?_
  repeat (go_big_quiet_step (first | (go_at_call 31; with_reducible exact c0 _ _) | (go_at_call 31; with_reducible exact c1 _ _) | (go_at_call 31; with_reducible exact c2 _ _) | (go_at_call 31; with_reducible exact c3 _ _)))
  refine wpQuiet_nil ?_
  intro _ hw'
  obtain ⟨⟨dq, osq⟩, hw''⟩ := hw'
  subst hw''
  clear p0 p1 p2 p3 c0 c1 c2 c3 N0 N1 N2 N3 z0 z1 z2
  have HSg := hid (show CSt W (grow (redrawn w2 dq) osq) k f t i p s b from ⟨keep0 HS2.out.m (below_regrown w2 dq osq), HS2.out.bel.trans ((below_regrown w2 dq osq).mono HS2.out.bel.size)⟩)
  clear HS2
  simp only [strapp]
  obtain ⟨L0, hL0⟩ : ∃ L0, q0 ++ q1 ++ q2 ++ q3 = L0 := ⟨_, rfl⟩
  have hl0 : L0.length ≤ 32 := by rw [← hL0]; have := HL.out; simp only [List.length_append]; omega
  rw [hL0] at HOUT ⊢
  generalize str (q0 ++ q1 ++ q2) = y2
  generalize str (q0 ++ q1) = y1
  have HLL0 := hid hL0
  clear hL0
  go_upto_region 4 with (fail)
  refine at_world (fun w => CSt W w k f t i p s b) HSg.out ?_
  clear HSg
  rintro w3 hS3
  have HS := hid hS3
  clear hS3
  obtain ⟨L1, hL1⟩ : ∃ L1, (L0 ++ if hpP k = true then q4 else []) = L1 := ⟨_, rfl⟩
  obtain ⟨L2, hL2⟩ : ∃ L2, (L1 ++ if hpS k = true then q5 else []) = L2 := ⟨_, rfl⟩
  obtain ⟨L3, hL3⟩ : ∃ L3, (L2 ++ if hpB k = true then numB b.size ++ b.data.toList else []) = L3 := ⟨_, rfl⟩
  rw [hL1, hL2, hL3] at HOUT
  have hl1 : L1.length ≤ 40 := by rw [← hL1, List.length_append]; have := HL.out; split <;> simp <;> omega
  have hl2 : L2.length ≤ 48 := by rw [← hL2, List.length_append]; have := HL.out; split <;> simp <;> omega
  have hb8 := (numB_length b.size (by omega)).2
  have hl3 : L3.length ≤ 48 + 8 + b.size := by
    rw [← hL3, List.length_append]
    split
    · rw [List.length_append, HBL.out]; omega
    · simp; omega
  have HL1 := hid hL1
  have HL2 := hid hL2
  have HL3 := hid hL3
  have HLN := hid (And.intro hl0 (And.intro hl1 (And.intro hl2 (And.intro hl3 hb8))))
  clear hL1 hL2 hL3 hl0 hl1 hl2 hl3 hb8
  have HK4 := hid hk4
  clear hk4
  obtain ⟨⟨p0, p1, p2, p3, p4, p5, p6⟩, f0, f1, f2, f3, f4, f5, f6⟩ := seven_cells HS.out.m
  have hzz : (str L0).size + (str q4).size ≤ 100000 := by rw [str_size, str_size]; have := HLN.out; have := HL.out; omega
  have hdk : decide ((k : Int) < 4) = hpP k := by
    have := HK4.out
    rw [Bool.eq_iff_iff]; simp [hpP]; omega
  go_upto_if 24 with (fail)
  go_cut [3] from 25 to 29 (fun v wx => v = .string (str L1) ∧ Hid (CSt W wx k f t i p s b))
  case first =>
    have h1 := HL1.out
    generalize hpP k = hp at *
    cases hp
    case false =>
      go_wp2
      go_meet
      refine ⟨?_, HS.out⟩
      rw [← h1]; simp
    case true =>
      have h2 : L0 ++ q4 = L1 := by simpa using h1
      clear h1
      go_wp2_with fail
      refine (N4.out _).mono ?_
      rintro y w5 ⟨rfl, hb5⟩
      go_wp2
      go_meet
      exact ⟨by rw [strapp, h2], keep0 HS.out.m hb5, HS.out.bel.trans (hb5.mono HS.out.bel.size)⟩
  case rest =>
  obtain ⟨rfl, HS9⟩ := hcut
  clear HS hzz hdk p0 p1 p2 p3 p4 p5 p6 f0 f1 f2 f3 f4 f5 f6 N4 HL1
  have HS := hid HS9.out
  clear HS9
  obtain ⟨w6, rfl⟩ : ∃ w, w = wc := ⟨_, rfl⟩
  obtain ⟨⟨p0, p1, p2, p3, p4, p5, p6⟩, f0, f1, f2, f3, f4, f5, f6⟩ := seven_cells HS.out.m
  have hzz : (str L1).size + (str q5).size ≤ 100000 := by rw [str_size, str_size]; have := HLN.out; have := HL.out; omega
  have hdk : decide ((k : Int) < 3) = hpS k := by
    have := HK4.out
    rw [Bool.eq_iff_iff]; simp [hpS]; omega
  go_upto_if 32 with (fail)
  go_cut [3] from 33 to 37 (fun v wx => v = .string (str L2) ∧ Hid (CSt W wx k f t i p s b))
  case first =>
    have h1 := HL2.out
    generalize hpS k = hp at *
    cases hp
    case false =>
      go_wp2
      go_meet
      refine ⟨?_, HS.out⟩
      rw [← h1]; simp
    case true =>
      have h2 : L1 ++ q5 = L2 := by simpa using h1
      clear h1
      go_wp2_with fail
      refine (N5.out _).mono ?_
      rintro y w5 ⟨rfl, hb5⟩
      go_wp2
      go_meet
      exact ⟨by rw [strapp, h2], keep0 HS.out.m hb5, HS.out.bel.trans (hb5.mono HS.out.bel.size)⟩
  case rest =>
  obtain ⟨rfl, HS9⟩ := hcut
  clear HS hzz hdk p0 p1 p2 p3 p4 p5 p6 f0 f1 f2 f3 f4 f5 f6 N5 HL2
  have HS := hid HS9.out
  clear HS9
  obtain ⟨w7, rfl⟩ : ∃ w, w = wc := ⟨_, rfl⟩
  obtain ⟨⟨p0, p1, p2, p3, p4, p5, p6⟩, f0, f1, f2, f3, f4, f5, f6⟩ := seven_cells HS.out.m
  have hzz : (str L2).size + tx.size ≤ 200000 := by rw [← HTX.out, ByteArray.size_append, str_size, str_size]; have := HLN.out; omega
  have hk := HK4.out
  have hcv : Hid ((k : Int) == 1 ∨ True) := hid (.inr trivial)
  clear hcv
  rcases (by omega : k = 1 ∨ k = 2 ∨ k = 3 ∨ k = 4) with hk | hk | hk | hk
  case' inl =>
    have e1 : ((k : Int) == 1) = true := by rw [hk]; rfl
    have e4 : ((k : Int) == 4) = false := by rw [hk]; rfl
    have hB : hpB k = true := by rw [hk]; rfl
    rw [hB] at HL3
    clear hk hB
    have h1 := HL3.out
    rw [if_pos rfl] at h1
    have h2 : str L2 ++ tx = str L3 := by
      rw [← HTX.out, ← h1, ← strapp, ← strapp, str_of]
    go_wp2_with fail
    refine (NT.out _).mono ?_
    rintro y w8 ⟨rfl, hb8⟩
    have HS8 := hid (HS.out.bel.trans (hb8.mono HS.out.bel.size))
    clear HS hb8 p0 p1 p2 p3 p4 p5 p6 f0 f1 f2 f3 f4 f5 f6 h1 e1 e4
    go_upto_region 10 with (fail)
    clear h2 hzz
    refine at_world (fun w => Below W.heap.size W w) HS8.out ?_
    clear HS8
  case' inr.inl =>
    have e1 : ((k : Int) == 1) = false := by rw [hk]; rfl
    have e4 : ((k : Int) == 4) = false := by rw [hk]; rfl
    have hB : hpB k = false := by rw [hk]; rfl
    rw [hB] at HL3
    clear hk hB
    have h1 := HL3.out
    rw [if_neg (by simp), List.append_nil] at h1
    have HS8 := hid HS.out.bel
    clear HS
    go_upto_region 10 with (fail)
    try rw [h1]
    clear p0 p1 p2 p3 p4 p5 p6 f0 f1 f2 f3 f4 f5 f6 h1 e1 e4 hzz
    refine at_world (fun w => Below W.heap.size W w) HS8.out ?_
    clear HS8
  case' inr.inr.inl =>
    have e1 : ((k : Int) == 1) = false := by rw [hk]; rfl
    have e4 : ((k : Int) == 4) = false := by rw [hk]; rfl
    have hB : hpB k = false := by rw [hk]; rfl
    rw [hB] at HL3
    clear hk hB
    have h1 := HL3.out
    rw [if_neg (by simp), List.append_nil] at h1
    have HS8 := hid HS.out.bel
    clear HS
    go_upto_region 10 with (fail)
    try rw [h1]
    clear p0 p1 p2 p3 p4 p5 p6 f0 f1 f2 f3 f4 f5 f6 h1 e1 e4 hzz
    refine at_world (fun w => Below W.heap.size W w) HS8.out ?_
    clear HS8
  case' inr.inr.inr =>
    have e1 : ((k : Int) == 1) = false := by rw [hk]; rfl
    have e4 : ((k : Int) == 4) = true := by rw [hk]; rfl
    have hB : hpB k = true := by rw [hk]; rfl
    rw [hB] at HL3
    clear hk hB
    have h1 := HL3.out
    rw [if_pos rfl] at h1
    have h2 : str L2 ++ tx = str L3 := by
      rw [← HTX.out, ← h1, ← strapp, ← strapp, str_of]
    go_wp2_with fail
    refine (NT.out _).mono ?_
    rintro y w8 ⟨rfl, hb8⟩
    have HS8 := hid (HS.out.bel.trans (hb8.mono HS.out.bel.size))
    clear HS hb8 p0 p1 p2 p3 p4 p5 p6 f0 f1 f2 f3 f4 f5 f6 h1 e1 e4
    go_upto_region 10 with (fail)
    clear h2 hzz
    refine at_world (fun w => Below W.heap.size W w) HS8.out ?_
    clear HS8
  all_goals
    rintro w9 b9
    have HB9 := hid b9
    have HRP := hid (rput_any (str L3) w9 (by rw [str_size]; have := HLN.out; omega))
    have hst : (str L3).data.toList = L3 := by simp [str]
    rw [hst, HOUT.out] at HRP
    clear b9 hst HOUT
    go_wp2_with (go_at_call 33; refine HRP.out.mono ?_; rintro y w10 ⟨rfl, hb10⟩)
    go_ret
    exact ⟨rfl, HB9.out.trans (hb10.mono HB9.out.size)⟩

theorem rpbytes_no (k f t i p s : Int) (b : ByteArray) (hc : okP k f t i p s b.data.toList = false) (W : World) :
    Calls Tryz.prog 12 #[.agg #[.int .i64 k, .int .i64 f, .int .i64 t, .int .i64 i, .int .i64 p, .int .i64 s, .string b]] W (OkStr W ⟨#[]⟩) := by
  have HC := hid (fun w => rcheck_any k f t i p s b w)
  rw [hc] at HC
  clear hc
  go_enter Tryz.func12, Tryz.ntmps12
  go_upto_region 1 with (fail)
  refine at_world (fun w => Pc 30 w W.heap.size k f t i p s b ∧ Below W.heap.size W w) ⟨heap_alloc_new _ _, (Below.refl _ _).alloc (Nat.le_refl _) _⟩ ?_
  rintro w1 ⟨hm1, hB1⟩
  obtain ⟨⟨p0, p1, p2, p3, p4, p5, p6⟩, f0, f1, f2, f3, f4, f5, f6⟩ := seven_cells hm1
  go_wp2_with (go_at_call 21; refine (HC.out _).mono ?_; rintro x w2 ⟨rfl, hb2⟩)
  go_ret
  exact ⟨rfl, hB1.trans (hb2.mono hB1.size)⟩
theorem rpbytes_any (k f t i p s : Int) (b : ByteArray) (hb : b.size ≤ 1000) (W : World) :
    Calls Tryz.prog 12 #[.agg #[.int .i64 k, .int .i64 f, .int .i64 t, .int .i64 i, .int .i64 p, .int .i64 s, .string b]] W fun e w' => e = .returned (.string (pbS k f t i p s b)) ∧ Below W.heap.size W w' := by
  cases hc : okP k f t i p s b.data.toList with
  | true =>
    rw [pbS, if_pos hc]
    obtain ⟨n, rfl⟩ : ∃ n : Nat, k = n := ⟨k.toNat, by have := (okP_iff hc).1; omega⟩
    exact rpbytes_ok n f t i p s b hb hc W
  | false =>
    rw [pbS, if_neg (by simp [hc])]
    exact rpbytes_no k f t i p s b hc W
end Go.Proofs.YtdphdodjidbngaaGreat

namespace Go.Proofs.YtdphdodjidbngaaGreat
open Go.RowKit
set_option linter.unusedVariables false
set_option linter.unusedSimpArgs false

set_option maxRecDepth 20000 in
set_option maxHeartbeats 4000000 in
theorem open_any (s : ByteArray) (hs : s.size ≤ 1000) (W : World) :
    Calls Tryz.prog 34 #[.string s] W fun x w' => x = .returned (.tuple #[opV s.data.toList, .int .i64 (opE s.data.toList)]) ∧ Below W.heap.size W w' := by
  have HV : Hid (opV s.data.toList = if opE s.data.toList = 0 then pkV (qk (cutS s.data.toList).1).1 (qf (cutS s.data.toList).1).1 (qt (cutS s.data.toList).1).1 (qi (cutS s.data.toList).1).1 (qp (cutS s.data.toList).1).1 (qs (cutS s.data.toList).1).1 (str (qb (cutS s.data.toList).1).1) else pkV 0 0 0 0 0 0 ⟨#[]⟩) := hid rfl
  have HE : Hid (opE s.data.toList = if (cutS s.data.toList).2.2 = 0 then (if (cutS s.data.toList).2.1 < s.data.toList.length then 3 else qz (cutS s.data.toList).1) else (((cutS s.data.toList).2.2 : Nat) : Int)) := hid rfl
  have hl : s.data.toList.length = s.size := by rw [Array.length_toList]; rfl
  rw [hl] at HE
  have hcl : (cutS s.data.toList).2.2 = 0 → (cutS s.data.toList).1.length ≤ 4096 := fun h => (cut_ok _ h).1
  have HCUT := hid (fun A c w (h : IsBytes w A s.size c s.data.toList) => cut_any A s.size c s.data.toList w h (by omega))
  generalize opV s.data.toList = ov at *
  generalize opE s.data.toList = oe at *
  generalize cutS s.data.toList = cv at *
  obtain ⟨x, n, ce⟩ := cv
  simp only at HV HE hcl HCUT
  have HCL := hid hcl
  clear hcl
  go_enter Tryz.func34, Tryz.ntmps34
  go_upto_region 1 with (fail)
  refine at_world (fun w => Pc 90 w W.heap.size 0 0 0 0 0 0 ⟨#[]⟩ ∧ Below W.heap.size W w) ⟨heap_alloc_new _ _, (Below.refl _ _).alloc (Nat.le_refl _) _⟩ ?_
  rintro w1 ⟨hR1, hB1⟩
  obtain ⟨w2, A, c, hcv, hby, hb2⟩ := bytes_of w1 s (by omega)
  have HC := hid (HCUT.out A c w2 hby)
  have HR2 := hid (show Pc 90 w2 W.heap.size 0 0 0 0 0 0 ⟨#[]⟩ from keep0 hR1 hb2)
  have HB2 := hid (hB1.trans (hb2.mono hB1.size))
  clear hR1 hB1 hby hb2 HCUT
  go_wp2_with fail
  refine HC.out.mono ?_
  rintro y w3 ⟨rfl, hb3⟩
  have HR3 := hid (show Pc 90 w3 W.heap.size 0 0 0 0 0 0 ⟨#[]⟩ from keep0 HR2.out hb3)
  have HB3 := hid (HB2.out.trans (hb3.mono HB2.out.size))
  clear hb3 HR2 HB2 HC hcv
  obtain ⟨⟨p0, p1, p2, p3, p4, p5, p6⟩, f0, f1, f2, f3, f4, f5, f6⟩ := seven_cells HR3.out
  have fin0 : ∀ (w : World) (v : Int), oe = v → v ≠ 0 → Pc 90 w W.heap.size 0 0 0 0 0 0 ⟨#[]⟩ → ov = pkV 0 0 0 0 0 0 ⟨#[]⟩ := fun w v h1 h2 _ => by
    rw [HV.out, if_neg (by omega)]
  have FIN0 := hid fin0
  clear fin0
  by_cases hce : ce = 0
  · subst hce
    rw [if_pos rfl] at HE
    have HXL := hid (HCL.out rfl)
    clear HCL
    by_cases hn : n < s.size
    · have hn1 : (n : Int) < (s.size : Int) := by omega
      rw [if_pos hn] at HE
      clear hn
      have HV3 := hid (FIN0.out w3 3 HE.out (by decide) HR3.out)
      obtain rfl := HE.out
      clear HE
      go_wp2_with fail
      obtain ⟨⟨r0, r1, r2, r3, r4, r5, r6⟩, _⟩ := seven_cells (set_seven HR3.out (.int .i64 0) (.int .i64 0) (.int .i64 0) (.int .i64 0) (.int .i64 0) (.int .i64 0) (.string ⟨#[]⟩))
      have hbe := below_set7 HB3.out (Nat.le_refl _) (.int .i64 0) (.int .i64 0) (.int .i64 0) (.int .i64 0) (.int .i64 0) (.int .i64 0) (.string ⟨#[]⟩)
      unfold set7 at r0 r1 r2 r3 r4 r5 r6 hbe
      rw [HV3.out]
      refine bodyPost_ret (v := .tuple #[pkV 0 0 0 0 0 0 ⟨#[]⟩, .int .i64 3]) (by simp [results, Tryz.results34, go_sem, r0, r1, r2, r3, r4, r5, r6, pkV]) rfl ⟨rfl, hbe⟩
    · have hn1 : (s.size : Int) ≤ (n : Int) := by omega
      have hn2 : decide ((n : Int) < (s.size : Int)) = false := decide_eq_false (by omega)
      rw [if_neg hn] at HE
      clear hn FIN0 p0 p1 p2 p3 p4 p5 p6 f0 f1 f2 f3 f4 f5 f6
      have hxs : (str x).size = x.length := str_size x
      obtain ⟨w4, A4, c4, hcv, hby, hb4⟩ := bytes_of w3 (str x) (by rw [hxs]; have := HXL.out; omega)
      have hxd : (str x).data.toList = x := by simp [str]
      rw [hxd, hxs] at hby
      rw [hxs] at hcv
      have HN := hid (new_any A4 x.length c4 x w4 hby (by have := HXL.out; omega))
      have HR4 := hid (show Pc 90 w4 W.heap.size 0 0 0 0 0 0 ⟨#[]⟩ from keep0 HR3.out hb4)
      have HB4 := hid (HB3.out.trans (hb4.mono HB3.out.size))
      clear HR3 HB3 hby hb4 hxs hxd
      generalize str x = sx at hcv
      have hk0 := takeS_max true 1 4 x 0
      have hpk : Hid (qk x = takeS true 1 4 x 0) := hid rfl
      have hpf : Hid (qf x = rdNum 71 (qk x).2.1 (qk x).2.2) := hid rfl
      have hpt : Hid (qt x = rdNum 71 (qf x).2.1 (qf x).2.2) := hid rfl
      have hpe : Hid (qe x = if (qf x).1 = (qt x).1 then rdFail 3 (qt x).2.2 else (qt x).2.2) := hid rfl
      have hpi : Hid (qi x = takeS true 1 72057594037927935 (qt x).2.1 (qe x)) := hid rfl
      have hpp : Hid (qp x = takeS (hpP (qk x).1) 1 72057594037927935 (qi x).2.1 (qi x).2.2) := hid rfl
      have hps : Hid (qs x = takeS (hpS (qk x).1) 1 72057594037927935 (qp x).2.1 (qp x).2.2) := hid rfl
      have hpb : Hid (qb x = takeT (hpB (qk x).1) (qs x).2.1 (qs x).2.2) := hid rfl
      have hpz : Hid (qz x = rdEnd (qb x).2.1 (qb x).2.2) := hid rfl
      rw [← hpk.out] at hk0
      have hk : (qk x).1 ≤ 4 := by omega
      clear hk0
      generalize qz x = vz at *
      generalize qb x = vb at *
      generalize qs x = vs at *
      generalize qp x = vp at *
      generalize qi x = vi at *
      generalize qe x = ve at *
      generalize qt x = vt at *
      generalize qf x = vf at *
      generalize qk x = vk at *
      obtain ⟨k, lk, ek⟩ := vk
      obtain ⟨f, lf, ef⟩ := vf
      obtain ⟨t, lt, et⟩ := vt
      obtain ⟨i, li, ei⟩ := vi
      obtain ⟨p, lp, ep⟩ := vp
      obtain ⟨q, ls, es⟩ := vs
      obtain ⟨bt, lb, eb⟩ := vb
      simp only at *
      have HHP := hid (hasPeer_any k hk)
      have HHS := hid (hasSeq_any k hk)
      have HHB := hid (hasBody_any k hk)
      clear hk
      generalize hpP k = hp at *
      generalize hpS k = hsq at *
      generalize hpB k = hbo at *
      go_wp2_with fail
      refine HN.out.mono ?_
      rintro y w5 ⟨B, rfl, hB, hR5, hb5⟩
      have HK5 : Hid (Pc 90 w5 W.heap.size 0 0 0 0 0 0 ⟨#[]⟩ ∧ Below W.heap.size W w5 ∧ W.heap.size < B) := hid ⟨keep0 HR4.out hb5, HB4.out.trans (hb5.mono HB4.out.size), Nat.lt_of_lt_of_le (lt_of_block HR4.out) hB⟩
      have HT := hid (from_any B 1 4 x 0 w5 hR5)
      rw [← hpk.out] at HT
      simp only at HT
      clear hb5 hR5 HN HR4 HB4 hcv hpk hB
      go_wp2_with fail
      refine HT.out.mono ?_
      rintro y w6 ⟨rfl, hR6, hO6⟩
      have HT := hid (rdNum_any B lk ek 71 w6 hR6)
      rw [← hpf.out] at HT
      simp only at HT
      have HO6 := hid hO6
      clear hR6 hO6 hpf
      go_wp2_with fail
      refine HT.out.mono ?_
      rintro y w7 ⟨rfl, hR7, hO7⟩
      have HT := hid (rdNum_any B lf ef 71 w7 hR7)
      rw [← hpt.out] at HT
      simp only at HT
      have HO7 := hid (HO6.out.trans hO7)
      clear hR7 hO7 hpt HO6
      go_wp2_with fail
      refine HT.out.mono ?_
      rintro y w8 ⟨rfl, hR8, hO8⟩
      have hO := HO7.out.trans hO8
      clear HO7 HT hO8
      have K8 : QSt W (w8.alloc (.cells #[.int .i64 k, .int .i64 f, .int .i64 t, .int .i64 0, .int .i64 0, .int .i64 0, .string ⟨#[]⟩] 90)) W.heap.size B w8.heap.size lt et k f t 0 0 0 ⟨#[]⟩ := by
        have h1 := hO.block HK5.out.1 (by have := HK5.out.2.2; omega)
        have h2 := HK5.out.2.1.trans (hO.below W.heap.size (Nat.le_of_lt HK5.out.2.2) HK5.out.2.1.size)
        have h3 : B < w8.heap.size := by obtain ⟨_, _, h, _⟩ := hR8; exact lt_of_block h
        refine ⟨(Below.heap_alloc _ _ _ (lt_of_block h1)).trans h1, hR8.below ((Below.refl _ _).alloc (Nat.le_refl _) _), heap_alloc_new _ _, h2.alloc h2.size _, Nat.le_refl _, Nat.le_of_lt HK5.out.2.2, h2.size, ?_, ?_, ?_⟩
        · have := HK5.out.2.2; omega
        · omega
        · have := lt_of_block h1; omega
      have HK8 := hid K8
      clear hR8 hO HK5 K8
      go_upto_region 8 with (fail)
      have K8' := HK8.out
      clear HK8
      generalize w8.heap.size = M at K8' ⊢
      refine at_world (fun w => QSt W w W.heap.size B M lt et k f t 0 0 0 ⟨#[]⟩) K8' ?_
      clear K8'
      rintro w9 K9
      obtain ⟨⟨p0, p1, p2, p3, p4, p5, p6⟩, f0, f1, f2, f3, f4, f5, f6⟩ := seven_cells K9.m
      have HK9 := hid K9
      clear K9
      rcases Classical.em (f = t) with hft | hft
      case' inl =>
        have hd : ((f : Int) == (t : Int)) = true := by simp [hft]
        rw [if_pos hft] at hpe
        have HF := hid (rdFail_any B lt et 3 w9 HK9.out.b)
        rw [← hpe.out] at HF
        clear hpe hft
        go_wp2_with fail
        refine HF.out.mono ?_
        rintro y w10 ⟨⟨v, rfl⟩, hR10, hO10⟩
        have HK10 := hid (HK9.out.go hO10 hR10)
        clear HK9 hR10 hO10 HF p0 p1 p2 p3 p4 p5 p6 f0 f1 f2 f3 f4 f5 f6 hd
        go_upto_region 10 with (fail)
        refine at_world (fun w => QSt W w W.heap.size B M lt ve k f t 0 0 0 ⟨#[]⟩) HK10.out ?_
        clear HK10
      case' inr =>
        have hd : ((f : Int) == (t : Int)) = false := by rw [beq_eq_false_iff_ne]; omega
        rw [if_neg hft] at hpe
        obtain rfl := hpe.out
        clear hft hpe
        go_upto_region 10 with (fail)
        refine at_world (fun w => QSt W w W.heap.size B M lt ve k f t 0 0 0 ⟨#[]⟩) HK9.out ?_
        clear HK9 p0 p1 p2 p3 p4 p5 p6 f0 f1 f2 f3 f4 f5 f6 hd
      all_goals
        rintro w10 K10
        have HT := hid (from_any B 1 72057594037927935 lt ve w10 K10.b)
        rw [← hpi.out] at HT
        simp only at HT
        have HK10 := hid K10
        clear K10 hpi
        go_wp2_with fail
        refine HT.out.mono ?_
        rintro y w11 ⟨rfl, hR11, hO11⟩
        have HK11 := hid (HK10.out.go hO11 hR11)
        clear HK10 hR11 hO11 HT
        obtain ⟨⟨p0, p1, p2, p3, p4, p5, p6⟩, f0, f1, f2, f3, f4, f5, f6⟩ := seven_cells HK11.out.m
        go_upto_region 11 with (fail)
        refine at_world (fun w => QSt W w W.heap.size B M li ei k f t i 0 0 ⟨#[]⟩) (HK11.out.m3 _) ?_
        clear HK11 p0 p1 p2 p3 p4 p5 p6 f0 f1 f2 f3 f4 f5 f6
        rintro w12 K12
        obtain ⟨⟨p0, p1, p2, p3, p4, p5, p6⟩, f0, f1, f2, f3, f4, f5, f6⟩ := seven_cells K12.m
        have HK12 := hid K12
        clear K12
        cases hp
        case' true =>
          have HT := hid (from_any B 1 72057594037927935 li ei w12 HK12.out.b)
          rw [← hpp.out] at HT
          simp only at HT
          clear hpp
          go_wp2_with (go_at_call 52; refine (HHP.out _).mono ?_; rintro y w' ⟨rfl, rfl⟩)
          refine HT.out.mono ?_
          rintro y w13 ⟨rfl, hR13, hO13⟩
          have HK13 := hid (HK12.out.go hO13 hR13)
          clear HK12 hR13 hO13 HT p0 p1 p2 p3 p4 p5 p6 f0 f1 f2 f3 f4 f5 f6
          obtain ⟨⟨p0, p1, p2, p3, p4, p5, p6⟩, f0, f1, f2, f3, f4, f5, f6⟩ := seven_cells HK13.out.m
          go_upto_region 13 with (fail)
          refine at_world (fun w => QSt W w W.heap.size B M lp ep k f t i p 0 ⟨#[]⟩) (HK13.out.m4 _) ?_
          clear HK13 p0 p1 p2 p3 p4 p5 p6 f0 f1 f2 f3 f4 f5 f6
        case' false =>
          have hz := hpp.out
          simp only [takeS, Bool.false_eq_true, if_false, Prod.mk.injEq] at hz
          obtain ⟨hz1, rfl, rfl⟩ := hz
          have HZ := hid (show (p : Int) = 0 by omega)
          clear hpp hz1
          go_upto_region 13 with (go_at_call 52; refine (HHP.out _).mono ?_; rintro y w' ⟨rfl, rfl⟩)
          refine at_world (fun w => QSt W w W.heap.size B M lp ep k f t i p 0 ⟨#[]⟩) (by rw [HZ.out]; exact HK12.out) ?_
          clear HK12 p0 p1 p2 p3 p4 p5 p6 f0 f1 f2 f3 f4 f5 f6
      all_goals
        rintro w14 K14
        obtain ⟨⟨p0, p1, p2, p3, p4, p5, p6⟩, f0, f1, f2, f3, f4, f5, f6⟩ := seven_cells K14.m
        have HK14 := hid K14
        clear K14
        cases hsq
        case' true =>
          have HT := hid (from_any B 1 72057594037927935 lp ep w14 HK14.out.b)
          rw [← hps.out] at HT
          simp only at HT
          clear hps
          go_wp2_with (go_at_call 53; refine (HHS.out _).mono ?_; rintro y w' ⟨rfl, rfl⟩)
          refine HT.out.mono ?_
          rintro y w15 ⟨rfl, hR15, hO15⟩
          have HK15 := hid (HK14.out.go hO15 hR15)
          clear HK14 hR15 hO15 HT p0 p1 p2 p3 p4 p5 p6 f0 f1 f2 f3 f4 f5 f6
          obtain ⟨⟨p0, p1, p2, p3, p4, p5, p6⟩, f0, f1, f2, f3, f4, f5, f6⟩ := seven_cells HK15.out.m
          go_upto_region 15 with (fail)
          refine at_world (fun w => QSt W w W.heap.size B M ls es k f t i p q ⟨#[]⟩) (HK15.out.m5 _) ?_
          clear HK15 p0 p1 p2 p3 p4 p5 p6 f0 f1 f2 f3 f4 f5 f6
        case' false =>
          have hz := hps.out
          simp only [takeS, Bool.false_eq_true, if_false, Prod.mk.injEq] at hz
          obtain ⟨hz1, rfl, rfl⟩ := hz
          have HZ2 := hid (show (q : Int) = 0 by omega)
          clear hps hz1
          go_upto_region 15 with (go_at_call 53; refine (HHS.out _).mono ?_; rintro y w' ⟨rfl, rfl⟩)
          refine at_world (fun w => QSt W w W.heap.size B M ls es k f t i p q ⟨#[]⟩) (by rw [HZ2.out]; exact HK14.out) ?_
          clear HK14 p0 p1 p2 p3 p4 p5 p6 f0 f1 f2 f3 f4 f5 f6
      all_goals
        rintro w16 K16
        obtain ⟨⟨p0, p1, p2, p3, p4, p5, p6⟩, f0, f1, f2, f3, f4, f5, f6⟩ := seven_cells K16.m
        have HK16 := hid K16
        clear K16
        cases hbo
        case' true =>
          have HT := hid (rdText_any B ls es 32 w16 HK16.out.b)
          have hz : (bt, lb, eb) = if (rdText 32 ls es).1.length = 0 then ((rdText 32 ls es).1, (rdText 32 ls es).2.1, rdFail 3 (rdText 32 ls es).2.2) else rdText 32 ls es := hpb.out
          generalize rdText 32 ls es = tx at *
          obtain ⟨tb, tl, te⟩ := tx
          simp only at HT hz
          have HZB := hid hz
          clear hz hpb
          go_wp2_with (go_at_call 54; refine (HHB.out _).mono ?_; rintro y w' ⟨rfl, rfl⟩)
          refine HT.out.mono ?_
          rintro y w17 ⟨rfl, hR17, hO17⟩
          have HK17 := hid (HK16.out.go hO17 hR17)
          clear HK16 hR17 hO17 HT p0 p1 p2 p3 p4 p5 p6 f0 f1 f2 f3 f4 f5 f6
          obtain ⟨⟨p0, p1, p2, p3, p4, p5, p6⟩, f0, f1, f2, f3, f4, f5, f6⟩ := seven_cells HK17.out.m
          go_upto_region 17 with (fail)
          refine at_world (fun w => QSt W w W.heap.size B M tl te k f t i p q (str tb)) (HK17.out.m6 _) ?_
          clear HK17 p0 p1 p2 p3 p4 p5 p6 f0 f1 f2 f3 f4 f5 f6
          rintro w18 K18
          obtain ⟨⟨p0, p1, p2, p3, p4, p5, p6⟩, f0, f1, f2, f3, f4, f5, f6⟩ := seven_cells K18.m
          have HK18 := hid K18
          clear K18
          rcases Classical.em (tb.length = 0) with htb | htb
          case' inl =>
            rw [if_pos htb] at HZB
            have hte : (str tb).toList = [] := by rw [ByteArray.toList_eq]; simpa [str] using List.eq_nil_of_length_eq_zero htb
            have hte2 : (str tb).toList.isEmpty = true := by rw [hte]; rfl
            have HF := hid (rdFail_any B tl te 3 w18 HK18.out.b)
            have HBT : Hid (bt = tb ∧ lb = tl ∧ eb = rdFail 3 te) := hid (by have := HZB.out; simpa using this)
            rw [← HBT.out.2.2, ← HBT.out.2.1] at HF
            go_wp2_with fail
            refine HF.out.mono ?_
            rintro y w19 ⟨⟨v, rfl⟩, hR19, hO19⟩
            have HK19 := hid (HK18.out.go hO19 hR19)
            clear HK18 hR19 hO19 HF p0 p1 p2 p3 p4 p5 p6 f0 f1 f2 f3 f4 f5 f6 hte hte2 HZB
            go_upto_region 19 with (fail)
            refine at_world (fun w => QSt W w W.heap.size B M lb eb k f t i p q (str bt)) (by rw [HBT.out.1]; exact HK19.out) ?_
            clear HK19 HBT
          case' inr =>
            rw [if_neg htb] at HZB
            have hte : ¬ (str tb).toList = [] := fun h => htb (by rw [ByteArray.toList_eq] at h; have : tb = [] := by simpa [str] using h
                                                                  rw [this]; rfl)
            have hte2 : (str tb).toList.isEmpty = false := by simpa using hte
            have HBT : Hid (bt = tb ∧ lb = tl ∧ eb = te) := hid (by have := HZB.out; simpa using this)
            clear HZB p0 p1 p2 p3 p4 p5 f0 f1 f2 f3 f4 f5 f6 htb
            go_upto_region 19 with (fail)
            refine at_world (fun w => QSt W w W.heap.size B M lb eb k f t i p q (str bt)) (by rw [HBT.out.1, HBT.out.2.1, HBT.out.2.2]; exact HK18.out) ?_
            clear HK18 HBT p6 hte hte2
        case' false =>
          have hz := hpb.out
          simp only [takeT, Bool.false_eq_true, if_false, Prod.mk.injEq] at hz
          obtain ⟨hz1, hz2, hz3⟩ := hz
          have HZ3 := hid (And.intro hz1 (And.intro hz2 hz3))
          clear hpb hz1 hz2 hz3
          go_upto_region 19 with (go_at_call 54; refine (HHB.out _).mono ?_; rintro y w' ⟨rfl, rfl⟩)
          refine at_world (fun w => QSt W w W.heap.size B M lb eb k f t i p q (str bt)) (by rw [HZ3.out.1, HZ3.out.2.1, HZ3.out.2.2]; exact HK16.out) ?_
          clear HK16 p0 p1 p2 p3 p4 p5 p6 f0 f1 f2 f3 f4 f5 f6
      all_goals
        rintro w20 K20
        have HED := hid (rdEnd_any B lb eb w20 K20.b)
        rw [← hpz.out] at HED
        obtain ⟨⟨p0, p1, p2, p3, p4, p5, p6⟩, f0, f1, f2, f3, f4, f5, f6⟩ := seven_cells K20.m
        obtain ⟨⟨q0, q1, q2, q3, q4, q5, q6⟩, g0, g1, g2, g3, g4, g5, g6⟩ := seven_cells K20.r
        have HK20 := hid K20
        clear K20
        by_cases he : vz = 0
        · have he2 : oe = 0 := by rw [HE.out, he]
          rw [if_pos he2] at HV
          have HVV := hid HV.out
          subst he
          have HOE := hid he2
          clear HV HE he2
          go_wp2_with (go_at_call 65; refine HED.out.mono ?_; rintro x w' ⟨rfl, rfl⟩)
          obtain ⟨⟨r0, r1, r2, r3, r4, r5, r6⟩, _⟩ := seven_cells (set_seven HK20.out.r (.int .i64 (k : Nat)) (.int .i64 (f : Nat)) (.int .i64 (t : Nat)) (.int .i64 (i : Nat)) (.int .i64 (p : Nat)) (.int .i64 (q : Nat)) (.string (str bt)))
          have hbe := below_set7 HK20.out.bel (Nat.le_refl _) (.int .i64 (k : Nat)) (.int .i64 (f : Nat)) (.int .i64 (t : Nat)) (.int .i64 (i : Nat)) (.int .i64 (p : Nat)) (.int .i64 (q : Nat)) (.string (str bt))
          unfold set7 at r0 r1 r2 r3 r4 r5 r6 hbe
          rw [HVV.out, HOE.out]
          refine bodyPost_ret (v := .tuple #[pkV k f t i p q (str bt), .int .i64 0]) (by simp [results, Tryz.results34, go_sem, r0, r1, r2, r3, r4, r5, r6, pkV]) rfl ⟨rfl, hbe⟩
        · have he2 : oe = vz := HE.out
          rw [if_neg (by rw [he2]; exact he)] at HV
          have hne : (vz != 0) = true := by simp [he]
          have HVV := hid HV.out
          have HOE := hid he2
          clear HV HE he2 he
          go_wp2_with (go_at_call 65; refine HED.out.mono ?_; rintro x w' ⟨rfl, rfl⟩)
          obtain ⟨⟨r0, r1, r2, r3, r4, r5, r6⟩, _⟩ := seven_cells (set_seven HK20.out.r (.int .i64 0) (.int .i64 0) (.int .i64 0) (.int .i64 0) (.int .i64 0) (.int .i64 0) (.string ⟨#[]⟩))
          have hbe := below_set7 HK20.out.bel (Nat.le_refl _) (.int .i64 0) (.int .i64 0) (.int .i64 0) (.int .i64 0) (.int .i64 0) (.int .i64 0) (.string ⟨#[]⟩)
          unfold set7 at r0 r1 r2 r3 r4 r5 r6 hbe
          rw [HVV.out, HOE.out]
          refine bodyPost_ret (v := .tuple #[pkV 0 0 0 0 0 0 ⟨#[]⟩, .int .i64 vz]) (by simp [results, Tryz.results34, go_sem, r0, r1, r2, r3, r4, r5, r6, pkV]) rfl ⟨rfl, hbe⟩
  · have hne : ((ce : Int) != 0) = true := by simp [hce]
    rw [if_neg hce] at HE
    have HV3 := hid (FIN0.out w3 ce HE.out (by omega) HR3.out)
    obtain rfl := HE.out
    clear HE hce HCL FIN0
    go_wp2_with fail
    obtain ⟨⟨r0, r1, r2, r3, r4, r5, r6⟩, _⟩ := seven_cells (set_seven HR3.out (.int .i64 0) (.int .i64 0) (.int .i64 0) (.int .i64 0) (.int .i64 0) (.int .i64 0) (.string ⟨#[]⟩))
    have hbe := below_set7 HB3.out (Nat.le_refl _) (.int .i64 0) (.int .i64 0) (.int .i64 0) (.int .i64 0) (.int .i64 0) (.int .i64 0) (.string ⟨#[]⟩)
    unfold set7 at r0 r1 r2 r3 r4 r5 r6 hbe
    rw [HV3.out]
    refine bodyPost_ret (v := .tuple #[pkV 0 0 0 0 0 0 ⟨#[]⟩, .int .i64 ce]) (by simp [results, Tryz.results34, go_sem, r0, r1, r2, r3, r4, r5, r6, pkV]) rfl ⟨rfl, hbe⟩
end Go.Proofs.YtdphdodjidbngaaGreat

namespace Go.Proofs.YtdphdodjidbngaaGreat
open Go.RowKit
set_option linter.unusedVariables false
set_option linter.unusedSimpArgs false

set_option maxRecDepth 20000 in
set_option maxHeartbeats 4000000 in
theorem ropen_any (l : List UInt8) (hs : l.length ≤ 1000) (W : World) :
    Calls Tryz.prog 36 #[.string (str l)] W fun x w' => x = .returned (.tuple #[opV l, .int .i64 (opE l)]) ∧ Below W.heap.size W w' := by
  have HV : Hid (opV l = if opE l = 0 then pkV (qk (cutS l).1).1 (qf (cutS l).1).1 (qt (cutS l).1).1 (qi (cutS l).1).1 (qp (cutS l).1).1 (qs (cutS l).1).1 (str (qb (cutS l).1).1) else pkV 0 0 0 0 0 0 ⟨#[]⟩) := hid rfl
  have HE : Hid (opE l = if (cutS l).2.2 = 0 then (if (cutS l).2.1 < l.length then 3 else qz (cutS l).1) else (((cutS l).2.2 : Nat) : Int)) := hid rfl
  have hcl : (cutS l).2.2 = 0 → (cutS l).1.length ≤ 4096 := fun h => (cut_ok _ h).1
  have HCUT := hid (fun w => rcut_any l w (by omega))
  have hsz : (str l).size = l.length := str_size l
  generalize opV l = ov at *
  generalize opE l = oe at *
  generalize cutS l = cv at *
  obtain ⟨x, n, ce⟩ := cv
  simp only at HV HE hcl HCUT
  have HCL := hid hcl
  clear hcl
  go_enter Tryz.func36, Tryz.ntmps36
  go_upto_region 1 with (fail)
  refine at_world (fun w => Pc 30 w W.heap.size 0 0 0 0 0 0 ⟨#[]⟩ ∧ Below W.heap.size W w) ⟨heap_alloc_new _ _, (Below.refl _ _).alloc (Nat.le_refl _) _⟩ ?_
  rintro w2 ⟨hR2, hB2⟩
  have HC := hid (HCUT.out w2)
  have HR2 := hid hR2
  have HB2 := hid hB2
  clear hR2 hB2 HCUT
  go_wp2_with fail
  refine HC.out.mono ?_
  rintro y w3 ⟨rfl, hb3⟩
  have HR3 := hid (show Pc 30 w3 W.heap.size 0 0 0 0 0 0 ⟨#[]⟩ from keep0 HR2.out hb3)
  have HB3 := hid (HB2.out.trans (hb3.mono HB2.out.size))
  clear hb3 HR2 HB2 HC
  obtain ⟨⟨p0, p1, p2, p3, p4, p5, p6⟩, f0, f1, f2, f3, f4, f5, f6⟩ := seven_cells HR3.out
  have fin0 : ∀ (w : World) (v : Int), oe = v → v ≠ 0 → Pc 30 w W.heap.size 0 0 0 0 0 0 ⟨#[]⟩ → ov = pkV 0 0 0 0 0 0 ⟨#[]⟩ := fun w v h1 h2 _ => by
    rw [HV.out, if_neg (by omega)]
  have FIN0 := hid fin0
  clear fin0
  by_cases hce : ce = 0
  · subst hce
    rw [if_pos rfl] at HE
    have HXL := hid (HCL.out rfl)
    clear HCL
    by_cases hn : n < l.length
    · have hn1 : (n : Int) < (l.length : Int) := by omega
      rw [if_pos hn] at HE
      clear hn
      have HV3 := hid (FIN0.out w3 3 HE.out (by decide) HR3.out)
      obtain rfl := HE.out
      clear HE
      go_wp2_with fail
      obtain ⟨⟨r0, r1, r2, r3, r4, r5, r6⟩, _⟩ := seven_cells (set_seven HR3.out (.int .i64 0) (.int .i64 0) (.int .i64 0) (.int .i64 0) (.int .i64 0) (.int .i64 0) (.string ⟨#[]⟩))
      have hbe := below_set7 HB3.out (Nat.le_refl _) (.int .i64 0) (.int .i64 0) (.int .i64 0) (.int .i64 0) (.int .i64 0) (.int .i64 0) (.string ⟨#[]⟩)
      unfold set7 at r0 r1 r2 r3 r4 r5 r6 hbe
      rw [HV3.out]
      refine bodyPost_ret (v := .tuple #[pkV 0 0 0 0 0 0 ⟨#[]⟩, .int .i64 3]) (by simp [results, Tryz.results36, go_sem, r0, r1, r2, r3, r4, r5, r6, pkV]) rfl ⟨rfl, hbe⟩
    · have hn1 : (l.length : Int) ≤ (n : Int) := by omega
      have hn2 : decide ((n : Int) < (l.length : Int)) = false := decide_eq_false (by omega)
      rw [if_neg hn] at HE
      clear hn FIN0 p0 p1 p2 p3 p4 p5 p6 f0 f1 f2 f3 f4 f5 f6
      have hk0 := takeS_max true 1 4 x 0
      have hpk : Hid (qk x = takeS true 1 4 x 0) := hid rfl
      have hpf : Hid (qf x = rdNum 71 (qk x).2.1 (qk x).2.2) := hid rfl
      have hpt : Hid (qt x = rdNum 71 (qf x).2.1 (qf x).2.2) := hid rfl
      have hpe : Hid (qe x = if (qf x).1 = (qt x).1 then rdFail 3 (qt x).2.2 else (qt x).2.2) := hid rfl
      have hpi : Hid (qi x = takeS true 1 72057594037927935 (qt x).2.1 (qe x)) := hid rfl
      have hpp : Hid (qp x = takeS (hpP (qk x).1) 1 72057594037927935 (qi x).2.1 (qi x).2.2) := hid rfl
      have hps : Hid (qs x = takeS (hpS (qk x).1) 1 72057594037927935 (qp x).2.1 (qp x).2.2) := hid rfl
      have hpb : Hid (qb x = takeT (hpB (qk x).1) (qs x).2.1 (qs x).2.2) := hid rfl
      have hpz : Hid (qz x = rdEnd (qb x).2.1 (qb x).2.2) := hid rfl
      rw [← hpk.out] at hk0
      have hk : (qk x).1 ≤ 4 := by omega
      clear hk0
      generalize qz x = vz at *
      generalize qb x = vb at *
      generalize qs x = vs at *
      generalize qp x = vp at *
      generalize qi x = vi at *
      generalize qe x = ve at *
      generalize qt x = vt at *
      generalize qf x = vf at *
      generalize qk x = vk at *
      obtain ⟨k, lk, ek⟩ := vk
      obtain ⟨f, lf, ef⟩ := vf
      obtain ⟨t, lt, et⟩ := vt
      obtain ⟨i, li, ei⟩ := vi
      obtain ⟨p, lp, ep⟩ := vp
      obtain ⟨q, ls, es⟩ := vs
      obtain ⟨bt, lb, eb⟩ := vb
      simp only at *
      have HKK := hid hk
      clear hk
      have hlens : Hid (lk.length ≤ 4096 ∧ lf.length ≤ 4096 ∧ lt.length ≤ 4096 ∧ li.length ≤ 4096 ∧ lp.length ≤ 4096 ∧ ls.length ≤ 4096) := by
        have hx := HXL.out
        have a1 := takeS_short true 1 4 x 0
        rw [← hpk.out] at a1
        have a2 := rdNum_short 71 lk ek
        rw [← hpf.out] at a2
        have a3 := rdNum_short 71 lf ef
        rw [← hpt.out] at a3
        have a4 := takeS_short true 1 72057594037927935 lt ve
        rw [← hpi.out] at a4
        have a5 := takeS_short (hpP k) 1 72057594037927935 li ei
        rw [← hpp.out] at a5
        have a6 := takeS_short (hpS k) 1 72057594037927935 lp ep
        rw [← hps.out] at a6
        simp only at a1 a2 a3 a4 a5 a6
        exact hid (by omega)
      go_upto_region 7 with (fail)
      refine at_world (fun w => Pc 30 w W.heap.size 0 0 0 0 0 0 ⟨#[]⟩ ∧ RRdr w w3.heap.size x 0 ∧ Below W.heap.size W w) ⟨(Below.heap_alloc _ _ _ (lt_of_block HR3.out)).trans HR3.out, heap_alloc_new _ _, HB3.out.alloc HB3.out.size _⟩ ?_
      have hBB : Hid (W.heap.size < w3.heap.size) := hid (lt_of_block HR3.out)
      clear HR3 HB3
      generalize w3.heap.size = B at *
      rintro w5 ⟨hr5, hR5, hb5⟩
      have HK5 : Hid (Pc 30 w5 W.heap.size 0 0 0 0 0 0 ⟨#[]⟩ ∧ Below W.heap.size W w5 ∧ W.heap.size < B) := hid ⟨hr5, hb5, hBB.out⟩
      have HT := hid (least_any B true 4 x 0 w5 hR5 (by have := HXL.out; omega))
      rw [← hpk.out] at HT
      simp only at HT
      clear hb5 hR5 hr5 hBB hpk
      go_wp2_with fail
      refine HT.out.mono ?_
      rintro y w6 ⟨rfl, hR6, hO6⟩
      have K6 : QRt W (w6.alloc (.cells #[.int .i64 k, .int .i64 0, .int .i64 0, .int .i64 0, .int .i64 0, .int .i64 0, .string ⟨#[]⟩] 30)) W.heap.size B w6.heap.size lk ek k 0 0 0 0 0 ⟨#[]⟩ := by
        have h1 := hO6.block HK5.out.1 (by have := HK5.out.2.2; omega)
        have h2 := HK5.out.2.1.trans (hO6.below W.heap.size (Nat.le_of_lt HK5.out.2.2) HK5.out.2.1.size)
        have h3 : B < w6.heap.size := lt_of_block hR6
        refine ⟨(Below.heap_alloc _ _ _ (lt_of_block h1)).trans h1, hR6.below ((Below.refl _ _).alloc (Nat.le_refl _) _), heap_alloc_new _ _, h2.alloc h2.size _, Nat.le_refl _, Nat.le_of_lt HK5.out.2.2, h2.size, ?_, ?_, ?_⟩
        · have := HK5.out.2.2; omega
        · omega
        · have := lt_of_block h1; omega
      have HK6 := hid K6
      clear hR6 hO6 HK5 K6 HT
      go_upto_region 8 with (fail)
      have K6' := HK6.out
      clear HK6
      generalize w6.heap.size = M at K6' ⊢
      refine at_world (fun w => QRt W w W.heap.size B M lk ek k 0 0 0 0 0 ⟨#[]⟩) K6' ?_
      clear K6'
      rintro w7 K7
      have HT := hid (rrNum_any B lk ek 71 w7 K7.b (by have := hlens.out; omega))
      rw [← hpf.out] at HT
      simp only at HT
      have HK7 := hid K7
      clear K7 hpf
      go_wp2_with fail
      refine HT.out.mono ?_
      rintro y w7b ⟨rfl, hR7, hO7⟩
      have HK7b := hid (HK7.out.go hO7 hR7)
      clear HK7 hR7 hO7 HT
      obtain ⟨⟨p0, p1, p2, p3, p4, p5, p6⟩, f0, f1, f2, f3, f4, f5, f6⟩ := seven_cells HK7b.out.m
      go_upto_region 9 with (fail)
      refine at_world (fun w => QRt W w W.heap.size B M lf ef k f 0 0 0 0 ⟨#[]⟩) (HK7b.out.m1 _) ?_
      clear HK7b p0 p1 p2 p3 p4 p5 p6 f0 f1 f2 f3 f4 f5 f6
      rintro w8 K8
      have HT := hid (rrNum_any B lf ef 71 w8 K8.b (by have := hlens.out; omega))
      rw [← hpt.out] at HT
      simp only at HT
      have HK8 := hid K8
      clear K8 hpt
      go_wp2_with fail
      refine HT.out.mono ?_
      rintro y w8b ⟨rfl, hR8, hO8⟩
      have HK8b := hid (HK8.out.go hO8 hR8)
      clear HK8 hR8 hO8 HT
      obtain ⟨⟨p0, p1, p2, p3, p4, p5, p6⟩, f0, f1, f2, f3, f4, f5, f6⟩ := seven_cells HK8b.out.m
      go_upto_region 10 with (fail)
      refine at_world (fun w => QRt W w W.heap.size B M lt et k f t 0 0 0 ⟨#[]⟩) (HK8b.out.m2 _) ?_
      clear HK8b p0 p1 p2 p3 p4 p5 p6 f0 f1 f2 f3 f4 f5 f6
      rintro w9 K9
      obtain ⟨⟨p0, p1, p2, p3, p4, p5, p6⟩, f0, f1, f2, f3, f4, f5, f6⟩ := seven_cells K9.m
      have HK9 := hid K9
      clear K9
      rcases Classical.em (f = t) with hft | hft
      case' inl =>
        have hd : ((f : Int) == (t : Int)) = true := by simp [hft]
        rw [if_pos hft] at hpe
        have HF := hid (rrFail_any B lt et 3 w9 HK9.out.b)
        rw [← hpe.out] at HF
        clear hpe hft
        go_wp2_with fail
        refine HF.out.mono ?_
        rintro y w10 ⟨⟨v, rfl⟩, hR10, hO10⟩
        have HK10 := hid (HK9.out.go hO10 hR10)
        clear HK9 hR10 hO10 HF p0 p1 p2 p3 p4 p5 p6 f0 f1 f2 f3 f4 f5 f6 hd
        go_upto_region 12 with (fail)
        refine at_world (fun w => QRt W w W.heap.size B M lt ve k f t 0 0 0 ⟨#[]⟩) HK10.out ?_
        clear HK10
      case' inr =>
        have hd : ((f : Int) == (t : Int)) = false := by rw [beq_eq_false_iff_ne]; omega
        rw [if_neg hft] at hpe
        obtain rfl := hpe.out
        clear hft hpe
        go_upto_region 12 with (fail)
        refine at_world (fun w => QRt W w W.heap.size B M lt ve k f t 0 0 0 ⟨#[]⟩) HK9.out ?_
        clear HK9 p0 p1 p2 p3 p4 p5 p6 f0 f1 f2 f3 f4 f5 f6 hd
      all_goals
        rintro w10 K10
        have HT := hid (least_any B true 72057594037927935 lt ve w10 K10.b (by have := hlens.out; omega))
        rw [← hpi.out] at HT
        simp only at HT
        have HK10 := hid K10
        clear K10 hpi
        go_wp2_with fail
        refine HT.out.mono ?_
        rintro y w11 ⟨rfl, hR11, hO11⟩
        have HK11 := hid (HK10.out.go hO11 hR11)
        clear HK10 hR11 hO11 HT
        obtain ⟨⟨p0, p1, p2, p3, p4, p5, p6⟩, f0, f1, f2, f3, f4, f5, f6⟩ := seven_cells HK11.out.m
        go_upto_region 13 with (fail)
        refine at_world (fun w => QRt W w W.heap.size B M li ei k f t i 0 0 ⟨#[]⟩) (HK11.out.m3 _) ?_
        clear HK11 p0 p1 p2 p3 p4 p5 p6 f0 f1 f2 f3 f4 f5 f6
        rintro w12 K12
        obtain ⟨⟨p0, p1, p2, p3, p4, p5, p6⟩, f0, f1, f2, f3, f4, f5, f6⟩ := seven_cells K12.m
        have HK12 := hid K12
        clear K12
        rcases (by have := HKK.out; omega : k = 0 ∨ k = 1 ∨ k = 2 ∨ k = 3 ∨ k = 4) with hk | hk | hk | hk | hk
        case' inl =>
          have hb1 : hpP k = false := by rw [hk]; rfl
          have hb2 : hpS k = false := by rw [hk]; rfl
          have hb3 : hpB k = false := by rw [hk]; rfl
          have hi0 : decide ((0 : Int) < (k : Int)) = false := by simp; omega
          have hj0 : (k : Int) ≤ 0 := by omega
          have hi4 : True := trivial
          have hi3 : True := trivial
          have hj4 : True := trivial
          have hj3 : True := trivial
          have HE1 : Hid (((k : Int) == 1) = false) := hid (by rw [hk]; rfl)
          have HE4 : Hid (((k : Int) == 4) = false) := hid (by rw [hk]; rfl)
          rw [hb1] at hpp
          rw [hb2] at hps
          rw [hb3] at hpb
          clear hb1 hb2 hb3 hk
          have HT := hid (least_any B false 72057594037927935 li ei w12 HK12.out.b (by have := hlens.out; omega))
          rw [← hpp.out] at HT
          simp only at HT
          clear hpp
          go_wp2_with fail
          refine HT.out.mono ?_
          rintro y w13 ⟨rfl, hR13, hO13⟩
          have HK13 := hid (HK12.out.go hO13 hR13)
          clear HK12 hR13 hO13 HT p0 p1 p2 p3 p4 p5 p6 f0 f1 f2 f3 f4 f5 f6
          obtain ⟨⟨p0, p1, p2, p3, p4, p5, p6⟩, f0, f1, f2, f3, f4, f5, f6⟩ := seven_cells HK13.out.m
          go_upto_region 14 with (fail)
          refine at_world (fun w => QRt W w W.heap.size B M lp ep k f t i p 0 ⟨#[]⟩) (HK13.out.m4 _) ?_
          clear HK13 p0 p1 p2 p3 p4 p5 p6 f0 f1 f2 f3 f4 f5 f6
          rintro w14 K14
          obtain ⟨⟨p0, p1, p2, p3, p4, p5, p6⟩, f0, f1, f2, f3, f4, f5, f6⟩ := seven_cells K14.m
          have HT := hid (least_any B false 72057594037927935 lp ep w14 K14.b (by have := hlens.out; omega))
          rw [← hps.out] at HT
          simp only at HT
          have HK14 := hid K14
          clear K14 hps
          go_wp2_with fail
          refine HT.out.mono ?_
          rintro y w15 ⟨rfl, hR15, hO15⟩
          have HK15 := hid (HK14.out.go hO15 hR15)
          clear HK14 hR15 hO15 HT p0 p1 p2 p3 p4 p5 p6 f0 f1 f2 f3 f4 f5 f6
          obtain ⟨⟨p0, p1, p2, p3, p4, p5, p6⟩, f0, f1, f2, f3, f4, f5, f6⟩ := seven_cells HK15.out.m
          go_upto_region 15 with (fail)
          refine at_world (fun w => QRt W w W.heap.size B M ls es k f t i p q ⟨#[]⟩) (HK15.out.m5 _) ?_
          clear HK15 p0 p1 p2 p3 p4 p5 p6 f0 f1 f2 f3 f4 f5 f6 hi0 hi3 hi4 hj0 hj3 hj4
          rintro w16 K16
          obtain ⟨⟨p0, p1, p2, p3, p4, p5, p6⟩, f0, f1, f2, f3, f4, f5, f6⟩ := seven_cells K16.m
          have HK16 := hid K16
          have he1 := HE1.out
          have he4 := HE4.out
          clear K16 HE1 HE4
          have hz := hpb.out
          simp only [takeT, Bool.false_eq_true, if_false, Prod.mk.injEq] at hz
          obtain ⟨hz1, hz2, hz3⟩ := hz
          have HZ3 := hid (And.intro hz1 (And.intro hz2 hz3))
          clear hpb hz1 hz2 hz3
          go_upto_region 19 with (fail)
          refine at_world (fun w => QRt W w W.heap.size B M lb eb k f t i p q (str bt)) (by rw [HZ3.out.1, HZ3.out.2.1, HZ3.out.2.2]; exact HK16.out) ?_
          clear HK16 p0 p1 p2 p3 p4 p5 p6 f0 f1 f2 f3 f4 f5 f6 he1 he4 HZ3
        case' inr.inl =>
          have hb1 : hpP k = true := by rw [hk]; rfl
          have hb2 : hpS k = true := by rw [hk]; rfl
          have hb3 : hpB k = true := by rw [hk]; rfl
          have hi0 : decide ((0 : Int) < (k : Int)) = true := by simp; omega
          have hj0 : (0 : Int) < (k : Int) := by omega
          have hi4 : decide ((k : Int) < 4) = true := by simp; omega
          have hi3 : decide ((k : Int) < 3) = true := by simp; omega
          have hj4 : (k : Int) < 4 := by omega
          have hj3 : (k : Int) < 3 := by omega
          have HE1 : Hid (((k : Int) == 1) = true) := hid (by rw [hk]; rfl)
          have HE4 : Hid (((k : Int) == 4) = false) := hid (by rw [hk]; rfl)
          rw [hb1] at hpp
          rw [hb2] at hps
          rw [hb3] at hpb
          clear hb1 hb2 hb3 hk
          have HT := hid (least_any B true 72057594037927935 li ei w12 HK12.out.b (by have := hlens.out; omega))
          rw [← hpp.out] at HT
          simp only at HT
          clear hpp
          go_wp2_with fail
          refine HT.out.mono ?_
          rintro y w13 ⟨rfl, hR13, hO13⟩
          have HK13 := hid (HK12.out.go hO13 hR13)
          clear HK12 hR13 hO13 HT p0 p1 p2 p3 p4 p5 p6 f0 f1 f2 f3 f4 f5 f6
          obtain ⟨⟨p0, p1, p2, p3, p4, p5, p6⟩, f0, f1, f2, f3, f4, f5, f6⟩ := seven_cells HK13.out.m
          go_upto_region 14 with (fail)
          refine at_world (fun w => QRt W w W.heap.size B M lp ep k f t i p 0 ⟨#[]⟩) (HK13.out.m4 _) ?_
          clear HK13 p0 p1 p2 p3 p4 p5 p6 f0 f1 f2 f3 f4 f5 f6
          rintro w14 K14
          obtain ⟨⟨p0, p1, p2, p3, p4, p5, p6⟩, f0, f1, f2, f3, f4, f5, f6⟩ := seven_cells K14.m
          have HT := hid (least_any B true 72057594037927935 lp ep w14 K14.b (by have := hlens.out; omega))
          rw [← hps.out] at HT
          simp only at HT
          have HK14 := hid K14
          clear K14 hps
          go_wp2_with fail
          refine HT.out.mono ?_
          rintro y w15 ⟨rfl, hR15, hO15⟩
          have HK15 := hid (HK14.out.go hO15 hR15)
          clear HK14 hR15 hO15 HT p0 p1 p2 p3 p4 p5 p6 f0 f1 f2 f3 f4 f5 f6
          obtain ⟨⟨p0, p1, p2, p3, p4, p5, p6⟩, f0, f1, f2, f3, f4, f5, f6⟩ := seven_cells HK15.out.m
          go_upto_region 15 with (fail)
          refine at_world (fun w => QRt W w W.heap.size B M ls es k f t i p q ⟨#[]⟩) (HK15.out.m5 _) ?_
          clear HK15 p0 p1 p2 p3 p4 p5 p6 f0 f1 f2 f3 f4 f5 f6 hi0 hi3 hi4 hj0 hj3 hj4
          rintro w16 K16
          obtain ⟨⟨p0, p1, p2, p3, p4, p5, p6⟩, f0, f1, f2, f3, f4, f5, f6⟩ := seven_cells K16.m
          have HK16 := hid K16
          have he1 := HE1.out
          have he4 := HE4.out
          clear K16 HE1 HE4
          have HT := hid (rrText_any B ls es 32 w16 HK16.out.b (by have := hlens.out; omega))
          have hz : (bt, lb, eb) = if (rdText 32 ls es).1.length = 0 then ((rdText 32 ls es).1, (rdText 32 ls es).2.1, rdFail 3 (rdText 32 ls es).2.2) else rdText 32 ls es := hpb.out
          generalize rdText 32 ls es = tx at *
          obtain ⟨tb, tl, te⟩ := tx
          simp only at HT hz
          have HZB := hid hz
          clear hz hpb
          go_wp2_with fail
          refine HT.out.mono ?_
          rintro y w17 ⟨rfl, hR17, hO17⟩
          have HK17 := hid (HK16.out.go hO17 hR17)
          clear HK16 hR17 hO17 HT p0 p1 p2 p3 p4 p5 p6 f0 f1 f2 f3 f4 f5 f6 he1 he4
          obtain ⟨⟨p0, p1, p2, p3, p4, p5, p6⟩, f0, f1, f2, f3, f4, f5, f6⟩ := seven_cells HK17.out.m
          go_upto_region 17 with (fail)
          refine at_world (fun w => QRt W w W.heap.size B M tl te k f t i p q (str tb)) (HK17.out.m6 _) ?_
          clear HK17 p0 p1 p2 p3 p4 p5 p6 f0 f1 f2 f3 f4 f5 f6
          rintro w18 K18
          obtain ⟨⟨p0, p1, p2, p3, p4, p5, p6⟩, f0, f1, f2, f3, f4, f5, f6⟩ := seven_cells K18.m
          have HK18 := hid K18
          clear K18
          have hts : (str tb).size = tb.length := str_size tb
          rcases Classical.em (tb.length = 0) with htb | htb
          case' inl =>
            rw [if_pos htb] at HZB
            have hte : (((str tb).size : Int) == 0) = true := by rw [hts, htb]; rfl
            have HF := hid (rrFail_any B tl te 3 w18 HK18.out.b)
            have HBT : Hid (bt = tb ∧ lb = tl ∧ eb = rdFail 3 te) := hid (by have := HZB.out; simpa using this)
            rw [← HBT.out.2.2, ← HBT.out.2.1] at HF
            clear hts htb
            go_wp2_with fail
            refine HF.out.mono ?_
            rintro y w19 ⟨⟨v, rfl⟩, hR19, hO19⟩
            have HK19 := hid (HK18.out.go hO19 hR19)
            clear HK18 hR19 hO19 HF p0 p1 p2 p3 p4 p5 p6 f0 f1 f2 f3 f4 f5 f6 hte HZB
            go_upto_region 19 with (fail)
            refine at_world (fun w => QRt W w W.heap.size B M lb eb k f t i p q (str bt)) (by rw [HBT.out.1]; exact HK19.out) ?_
            clear HK19 HBT
          case' inr =>
            rw [if_neg htb] at HZB
            have hte : (((str tb).size : Int) == 0) = false := by rw [hts, beq_eq_false_iff_ne]; omega
            have HBT : Hid (bt = tb ∧ lb = tl ∧ eb = te) := hid (by have := HZB.out; simpa using this)
            clear HZB p0 p1 p2 p3 p4 p5 f0 f1 f2 f3 f4 f5 f6 htb hts
            go_upto_region 19 with (fail)
            refine at_world (fun w => QRt W w W.heap.size B M lb eb k f t i p q (str bt)) (by rw [HBT.out.1, HBT.out.2.1, HBT.out.2.2]; exact HK18.out) ?_
            clear HK18 HBT p6 hte
        case' inr.inr.inl =>
          have hb1 : hpP k = true := by rw [hk]; rfl
          have hb2 : hpS k = true := by rw [hk]; rfl
          have hb3 : hpB k = false := by rw [hk]; rfl
          have hi0 : decide ((0 : Int) < (k : Int)) = true := by simp; omega
          have hj0 : (0 : Int) < (k : Int) := by omega
          have hi4 : decide ((k : Int) < 4) = true := by simp; omega
          have hi3 : decide ((k : Int) < 3) = true := by simp; omega
          have hj4 : (k : Int) < 4 := by omega
          have hj3 : (k : Int) < 3 := by omega
          have HE1 : Hid (((k : Int) == 1) = false) := hid (by rw [hk]; rfl)
          have HE4 : Hid (((k : Int) == 4) = false) := hid (by rw [hk]; rfl)
          rw [hb1] at hpp
          rw [hb2] at hps
          rw [hb3] at hpb
          clear hb1 hb2 hb3 hk
          have HT := hid (least_any B true 72057594037927935 li ei w12 HK12.out.b (by have := hlens.out; omega))
          rw [← hpp.out] at HT
          simp only at HT
          clear hpp
          go_wp2_with fail
          refine HT.out.mono ?_
          rintro y w13 ⟨rfl, hR13, hO13⟩
          have HK13 := hid (HK12.out.go hO13 hR13)
          clear HK12 hR13 hO13 HT p0 p1 p2 p3 p4 p5 p6 f0 f1 f2 f3 f4 f5 f6
          obtain ⟨⟨p0, p1, p2, p3, p4, p5, p6⟩, f0, f1, f2, f3, f4, f5, f6⟩ := seven_cells HK13.out.m
          go_upto_region 14 with (fail)
          refine at_world (fun w => QRt W w W.heap.size B M lp ep k f t i p 0 ⟨#[]⟩) (HK13.out.m4 _) ?_
          clear HK13 p0 p1 p2 p3 p4 p5 p6 f0 f1 f2 f3 f4 f5 f6
          rintro w14 K14
          obtain ⟨⟨p0, p1, p2, p3, p4, p5, p6⟩, f0, f1, f2, f3, f4, f5, f6⟩ := seven_cells K14.m
          have HT := hid (least_any B true 72057594037927935 lp ep w14 K14.b (by have := hlens.out; omega))
          rw [← hps.out] at HT
          simp only at HT
          have HK14 := hid K14
          clear K14 hps
          go_wp2_with fail
          refine HT.out.mono ?_
          rintro y w15 ⟨rfl, hR15, hO15⟩
          have HK15 := hid (HK14.out.go hO15 hR15)
          clear HK14 hR15 hO15 HT p0 p1 p2 p3 p4 p5 p6 f0 f1 f2 f3 f4 f5 f6
          obtain ⟨⟨p0, p1, p2, p3, p4, p5, p6⟩, f0, f1, f2, f3, f4, f5, f6⟩ := seven_cells HK15.out.m
          go_upto_region 15 with (fail)
          refine at_world (fun w => QRt W w W.heap.size B M ls es k f t i p q ⟨#[]⟩) (HK15.out.m5 _) ?_
          clear HK15 p0 p1 p2 p3 p4 p5 p6 f0 f1 f2 f3 f4 f5 f6 hi0 hi3 hi4 hj0 hj3 hj4
          rintro w16 K16
          obtain ⟨⟨p0, p1, p2, p3, p4, p5, p6⟩, f0, f1, f2, f3, f4, f5, f6⟩ := seven_cells K16.m
          have HK16 := hid K16
          have he1 := HE1.out
          have he4 := HE4.out
          clear K16 HE1 HE4
          have hz := hpb.out
          simp only [takeT, Bool.false_eq_true, if_false, Prod.mk.injEq] at hz
          obtain ⟨hz1, hz2, hz3⟩ := hz
          have HZ3 := hid (And.intro hz1 (And.intro hz2 hz3))
          clear hpb hz1 hz2 hz3
          go_upto_region 19 with (fail)
          refine at_world (fun w => QRt W w W.heap.size B M lb eb k f t i p q (str bt)) (by rw [HZ3.out.1, HZ3.out.2.1, HZ3.out.2.2]; exact HK16.out) ?_
          clear HK16 p0 p1 p2 p3 p4 p5 p6 f0 f1 f2 f3 f4 f5 f6 he1 he4 HZ3
        case' inr.inr.inr.inl =>
          have hb1 : hpP k = true := by rw [hk]; rfl
          have hb2 : hpS k = false := by rw [hk]; rfl
          have hb3 : hpB k = false := by rw [hk]; rfl
          have hi0 : decide ((0 : Int) < (k : Int)) = true := by simp; omega
          have hj0 : (0 : Int) < (k : Int) := by omega
          have hi4 : decide ((k : Int) < 4) = true := by simp; omega
          have hi3 : decide ((k : Int) < 3) = false := by simp; omega
          have hj4 : (k : Int) < 4 := by omega
          have hj3 : (3 : Int) ≤ (k : Int) := by omega
          have HE1 : Hid (((k : Int) == 1) = false) := hid (by rw [hk]; rfl)
          have HE4 : Hid (((k : Int) == 4) = false) := hid (by rw [hk]; rfl)
          rw [hb1] at hpp
          rw [hb2] at hps
          rw [hb3] at hpb
          clear hb1 hb2 hb3 hk
          have HT := hid (least_any B true 72057594037927935 li ei w12 HK12.out.b (by have := hlens.out; omega))
          rw [← hpp.out] at HT
          simp only at HT
          clear hpp
          go_wp2_with fail
          refine HT.out.mono ?_
          rintro y w13 ⟨rfl, hR13, hO13⟩
          have HK13 := hid (HK12.out.go hO13 hR13)
          clear HK12 hR13 hO13 HT p0 p1 p2 p3 p4 p5 p6 f0 f1 f2 f3 f4 f5 f6
          obtain ⟨⟨p0, p1, p2, p3, p4, p5, p6⟩, f0, f1, f2, f3, f4, f5, f6⟩ := seven_cells HK13.out.m
          go_upto_region 14 with (fail)
          refine at_world (fun w => QRt W w W.heap.size B M lp ep k f t i p 0 ⟨#[]⟩) (HK13.out.m4 _) ?_
          clear HK13 p0 p1 p2 p3 p4 p5 p6 f0 f1 f2 f3 f4 f5 f6
          rintro w14 K14
          obtain ⟨⟨p0, p1, p2, p3, p4, p5, p6⟩, f0, f1, f2, f3, f4, f5, f6⟩ := seven_cells K14.m
          have HT := hid (least_any B false 72057594037927935 lp ep w14 K14.b (by have := hlens.out; omega))
          rw [← hps.out] at HT
          simp only at HT
          have HK14 := hid K14
          clear K14 hps
          go_wp2_with fail
          refine HT.out.mono ?_
          rintro y w15 ⟨rfl, hR15, hO15⟩
          have HK15 := hid (HK14.out.go hO15 hR15)
          clear HK14 hR15 hO15 HT p0 p1 p2 p3 p4 p5 p6 f0 f1 f2 f3 f4 f5 f6
          obtain ⟨⟨p0, p1, p2, p3, p4, p5, p6⟩, f0, f1, f2, f3, f4, f5, f6⟩ := seven_cells HK15.out.m
          go_upto_region 15 with (fail)
          refine at_world (fun w => QRt W w W.heap.size B M ls es k f t i p q ⟨#[]⟩) (HK15.out.m5 _) ?_
          clear HK15 p0 p1 p2 p3 p4 p5 p6 f0 f1 f2 f3 f4 f5 f6 hi0 hi3 hi4 hj0 hj3 hj4
          rintro w16 K16
          obtain ⟨⟨p0, p1, p2, p3, p4, p5, p6⟩, f0, f1, f2, f3, f4, f5, f6⟩ := seven_cells K16.m
          have HK16 := hid K16
          have he1 := HE1.out
          have he4 := HE4.out
          clear K16 HE1 HE4
          have hz := hpb.out
          simp only [takeT, Bool.false_eq_true, if_false, Prod.mk.injEq] at hz
          obtain ⟨hz1, hz2, hz3⟩ := hz
          have HZ3 := hid (And.intro hz1 (And.intro hz2 hz3))
          clear hpb hz1 hz2 hz3
          go_upto_region 19 with (fail)
          refine at_world (fun w => QRt W w W.heap.size B M lb eb k f t i p q (str bt)) (by rw [HZ3.out.1, HZ3.out.2.1, HZ3.out.2.2]; exact HK16.out) ?_
          clear HK16 p0 p1 p2 p3 p4 p5 p6 f0 f1 f2 f3 f4 f5 f6 he1 he4 HZ3
        case' inr.inr.inr.inr =>
          have hb1 : hpP k = false := by rw [hk]; rfl
          have hb2 : hpS k = false := by rw [hk]; rfl
          have hb3 : hpB k = true := by rw [hk]; rfl
          have hi0 : decide ((0 : Int) < (k : Int)) = true := by simp; omega
          have hj0 : (0 : Int) < (k : Int) := by omega
          have hi4 : decide ((k : Int) < 4) = false := by simp; omega
          have hi3 : decide ((k : Int) < 3) = false := by simp; omega
          have hj4 : (4 : Int) ≤ (k : Int) := by omega
          have hj3 : (3 : Int) ≤ (k : Int) := by omega
          have HE1 : Hid (((k : Int) == 1) = false) := hid (by rw [hk]; rfl)
          have HE4 : Hid (((k : Int) == 4) = true) := hid (by rw [hk]; rfl)
          rw [hb1] at hpp
          rw [hb2] at hps
          rw [hb3] at hpb
          clear hb1 hb2 hb3 hk
          have HT := hid (least_any B false 72057594037927935 li ei w12 HK12.out.b (by have := hlens.out; omega))
          rw [← hpp.out] at HT
          simp only at HT
          clear hpp
          go_wp2_with fail
          refine HT.out.mono ?_
          rintro y w13 ⟨rfl, hR13, hO13⟩
          have HK13 := hid (HK12.out.go hO13 hR13)
          clear HK12 hR13 hO13 HT p0 p1 p2 p3 p4 p5 p6 f0 f1 f2 f3 f4 f5 f6
          obtain ⟨⟨p0, p1, p2, p3, p4, p5, p6⟩, f0, f1, f2, f3, f4, f5, f6⟩ := seven_cells HK13.out.m
          go_upto_region 14 with (fail)
          refine at_world (fun w => QRt W w W.heap.size B M lp ep k f t i p 0 ⟨#[]⟩) (HK13.out.m4 _) ?_
          clear HK13 p0 p1 p2 p3 p4 p5 p6 f0 f1 f2 f3 f4 f5 f6
          rintro w14 K14
          obtain ⟨⟨p0, p1, p2, p3, p4, p5, p6⟩, f0, f1, f2, f3, f4, f5, f6⟩ := seven_cells K14.m
          have HT := hid (least_any B false 72057594037927935 lp ep w14 K14.b (by have := hlens.out; omega))
          rw [← hps.out] at HT
          simp only at HT
          have HK14 := hid K14
          clear K14 hps
          go_wp2_with fail
          refine HT.out.mono ?_
          rintro y w15 ⟨rfl, hR15, hO15⟩
          have HK15 := hid (HK14.out.go hO15 hR15)
          clear HK14 hR15 hO15 HT p0 p1 p2 p3 p4 p5 p6 f0 f1 f2 f3 f4 f5 f6
          obtain ⟨⟨p0, p1, p2, p3, p4, p5, p6⟩, f0, f1, f2, f3, f4, f5, f6⟩ := seven_cells HK15.out.m
          go_upto_region 15 with (fail)
          refine at_world (fun w => QRt W w W.heap.size B M ls es k f t i p q ⟨#[]⟩) (HK15.out.m5 _) ?_
          clear HK15 p0 p1 p2 p3 p4 p5 p6 f0 f1 f2 f3 f4 f5 f6 hi0 hi3 hi4 hj0 hj3 hj4
          rintro w16 K16
          obtain ⟨⟨p0, p1, p2, p3, p4, p5, p6⟩, f0, f1, f2, f3, f4, f5, f6⟩ := seven_cells K16.m
          have HK16 := hid K16
          have he1 := HE1.out
          have he4 := HE4.out
          clear K16 HE1 HE4
          have HT := hid (rrText_any B ls es 32 w16 HK16.out.b (by have := hlens.out; omega))
          have hz : (bt, lb, eb) = if (rdText 32 ls es).1.length = 0 then ((rdText 32 ls es).1, (rdText 32 ls es).2.1, rdFail 3 (rdText 32 ls es).2.2) else rdText 32 ls es := hpb.out
          generalize rdText 32 ls es = tx at *
          obtain ⟨tb, tl, te⟩ := tx
          simp only at HT hz
          have HZB := hid hz
          clear hz hpb
          go_wp2_with fail
          refine HT.out.mono ?_
          rintro y w17 ⟨rfl, hR17, hO17⟩
          have HK17 := hid (HK16.out.go hO17 hR17)
          clear HK16 hR17 hO17 HT p0 p1 p2 p3 p4 p5 p6 f0 f1 f2 f3 f4 f5 f6 he1 he4
          obtain ⟨⟨p0, p1, p2, p3, p4, p5, p6⟩, f0, f1, f2, f3, f4, f5, f6⟩ := seven_cells HK17.out.m
          go_upto_region 17 with (fail)
          refine at_world (fun w => QRt W w W.heap.size B M tl te k f t i p q (str tb)) (HK17.out.m6 _) ?_
          clear HK17 p0 p1 p2 p3 p4 p5 p6 f0 f1 f2 f3 f4 f5 f6
          rintro w18 K18
          obtain ⟨⟨p0, p1, p2, p3, p4, p5, p6⟩, f0, f1, f2, f3, f4, f5, f6⟩ := seven_cells K18.m
          have HK18 := hid K18
          clear K18
          have hts : (str tb).size = tb.length := str_size tb
          rcases Classical.em (tb.length = 0) with htb | htb
          case' inl =>
            rw [if_pos htb] at HZB
            have hte : (((str tb).size : Int) == 0) = true := by rw [hts, htb]; rfl
            have HF := hid (rrFail_any B tl te 3 w18 HK18.out.b)
            have HBT : Hid (bt = tb ∧ lb = tl ∧ eb = rdFail 3 te) := hid (by have := HZB.out; simpa using this)
            rw [← HBT.out.2.2, ← HBT.out.2.1] at HF
            clear hts htb
            go_wp2_with fail
            refine HF.out.mono ?_
            rintro y w19 ⟨⟨v, rfl⟩, hR19, hO19⟩
            have HK19 := hid (HK18.out.go hO19 hR19)
            clear HK18 hR19 hO19 HF p0 p1 p2 p3 p4 p5 p6 f0 f1 f2 f3 f4 f5 f6 hte HZB
            go_upto_region 19 with (fail)
            refine at_world (fun w => QRt W w W.heap.size B M lb eb k f t i p q (str bt)) (by rw [HBT.out.1]; exact HK19.out) ?_
            clear HK19 HBT
          case' inr =>
            rw [if_neg htb] at HZB
            have hte : (((str tb).size : Int) == 0) = false := by rw [hts, beq_eq_false_iff_ne]; omega
            have HBT : Hid (bt = tb ∧ lb = tl ∧ eb = te) := hid (by have := HZB.out; simpa using this)
            clear HZB p0 p1 p2 p3 p4 p5 f0 f1 f2 f3 f4 f5 f6 htb hts
            go_upto_region 19 with (fail)
            refine at_world (fun w => QRt W w W.heap.size B M lb eb k f t i p q (str bt)) (by rw [HBT.out.1, HBT.out.2.1, HBT.out.2.2]; exact HK18.out) ?_
            clear HK18 HBT p6 hte
      all_goals
        rintro w20 K20
        have HED := hid (rrEnd_any B lb eb w20 K20.b)
        rw [← hpz.out] at HED
        obtain ⟨⟨p0, p1, p2, p3, p4, p5, p6⟩, f0, f1, f2, f3, f4, f5, f6⟩ := seven_cells K20.m
        obtain ⟨⟨q0, q1, q2, q3, q4, q5, q6⟩, g0, g1, g2, g3, g4, g5, g6⟩ := seven_cells K20.r
        have HK20 := hid K20
        clear K20
        by_cases he : vz = 0
        · have he2 : oe = 0 := by rw [HE.out, he]
          rw [if_pos he2] at HV
          have HVV := hid HV.out
          subst he
          have HOE := hid he2
          clear HV HE he2
          go_wp2_with (go_at_call 74; refine HED.out.mono ?_; rintro x w' ⟨rfl, rfl⟩)
          obtain ⟨⟨r0, r1, r2, r3, r4, r5, r6⟩, _⟩ := seven_cells (set_seven HK20.out.r (.int .i64 (k : Nat)) (.int .i64 (f : Nat)) (.int .i64 (t : Nat)) (.int .i64 (i : Nat)) (.int .i64 (p : Nat)) (.int .i64 (q : Nat)) (.string (str bt)))
          have hbe := below_set7 HK20.out.bel (Nat.le_refl _) (.int .i64 (k : Nat)) (.int .i64 (f : Nat)) (.int .i64 (t : Nat)) (.int .i64 (i : Nat)) (.int .i64 (p : Nat)) (.int .i64 (q : Nat)) (.string (str bt))
          unfold set7 at r0 r1 r2 r3 r4 r5 r6 hbe
          rw [HVV.out, HOE.out]
          refine bodyPost_ret (v := .tuple #[pkV k f t i p q (str bt), .int .i64 0]) (by simp [results, Tryz.results36, go_sem, r0, r1, r2, r3, r4, r5, r6, pkV]) rfl ⟨rfl, hbe⟩
        · have he2 : oe = vz := HE.out
          rw [if_neg (by rw [he2]; exact he)] at HV
          have hne : (vz != 0) = true := by simp [he]
          have HVV := hid HV.out
          have HOE := hid he2
          clear HV HE he2 he
          go_wp2_with (go_at_call 74; refine HED.out.mono ?_; rintro x w' ⟨rfl, rfl⟩)
          obtain ⟨⟨r0, r1, r2, r3, r4, r5, r6⟩, _⟩ := seven_cells (set_seven HK20.out.r (.int .i64 0) (.int .i64 0) (.int .i64 0) (.int .i64 0) (.int .i64 0) (.int .i64 0) (.string ⟨#[]⟩))
          have hbe := below_set7 HK20.out.bel (Nat.le_refl _) (.int .i64 0) (.int .i64 0) (.int .i64 0) (.int .i64 0) (.int .i64 0) (.int .i64 0) (.string ⟨#[]⟩)
          unfold set7 at r0 r1 r2 r3 r4 r5 r6 hbe
          rw [HVV.out, HOE.out]
          refine bodyPost_ret (v := .tuple #[pkV 0 0 0 0 0 0 ⟨#[]⟩, .int .i64 vz]) (by simp [results, Tryz.results36, go_sem, r0, r1, r2, r3, r4, r5, r6, pkV]) rfl ⟨rfl, hbe⟩
  · have hne : ((ce : Int) != 0) = true := by simp [hce]
    rw [if_neg hce] at HE
    have HV3 := hid (FIN0.out w3 ce HE.out (by omega) HR3.out)
    obtain rfl := HE.out
    clear HE hce HCL FIN0
    go_wp2_with fail
    obtain ⟨⟨r0, r1, r2, r3, r4, r5, r6⟩, _⟩ := seven_cells (set_seven HR3.out (.int .i64 0) (.int .i64 0) (.int .i64 0) (.int .i64 0) (.int .i64 0) (.int .i64 0) (.string ⟨#[]⟩))
    have hbe := below_set7 HB3.out (Nat.le_refl _) (.int .i64 0) (.int .i64 0) (.int .i64 0) (.int .i64 0) (.int .i64 0) (.int .i64 0) (.string ⟨#[]⟩)
    unfold set7 at r0 r1 r2 r3 r4 r5 r6 hbe
    rw [HV3.out]
    refine bodyPost_ret (v := .tuple #[pkV 0 0 0 0 0 0 ⟨#[]⟩, .int .i64 ce]) (by simp [results, Tryz.results36, go_sem, r0, r1, r2, r3, r4, r5, r6, pkV]) rfl ⟨rfl, hbe⟩
end Go.Proofs.YtdphdodjidbngaaGreat

namespace Go.Proofs.YtdphdodjidbngaaGreat
open Go.RowKit Go.Sort
set_option linter.unusedVariables false
set_option linter.unusedSimpArgs false

end Go.Proofs.YtdphdodjidbngaaGreat

namespace Go.Proofs.YtdphdodjidbngaaGreat
open Go.RowKit Go.Sort
set_option linter.unusedVariables false
set_option linter.unusedSimpArgs false

theorem rd_packet {w : World} {a : Array Value} (hn : a.size = 7) (h : Rd Tryz.prog w 30 a.toList) :
    ∃ (k f t i p s : Int) (b : ByteArray), a = #[.int .i64 k, .int .i64 f, .int .i64 t, .int .i64 i, .int .i64 p, .int .i64 s, .string b] ∧ b.size ≤ maxLen := by
  have hc : Tryz.prog.cellsOf 3 = 1 := by kernel_rfl
  have hc2 : Tryz.prog.cellsOf 9 = 1 := by kernel_rfl
  obtain ⟨_, hf⟩ := Rd.struct Tryz.underlying30 h
  have f0 : Rd Tryz.prog w 3 ((a.toList.drop 0).take (Tryz.prog.cellsOf 3)) := hf 0 _ rfl
  have f1 : Rd Tryz.prog w 3 ((a.toList.drop 1).take (Tryz.prog.cellsOf 3)) := hf 1 _ rfl
  have f2 : Rd Tryz.prog w 3 ((a.toList.drop 2).take (Tryz.prog.cellsOf 3)) := hf 2 _ rfl
  have f3 : Rd Tryz.prog w 3 ((a.toList.drop 3).take (Tryz.prog.cellsOf 3)) := hf 3 _ rfl
  have f4 : Rd Tryz.prog w 3 ((a.toList.drop 4).take (Tryz.prog.cellsOf 3)) := hf 4 _ rfl
  have f5 : Rd Tryz.prog w 3 ((a.toList.drop 5).take (Tryz.prog.cellsOf 3)) := hf 5 _ rfl
  have f6 : Rd Tryz.prog w 9 ((a.toList.drop 6).take (Tryz.prog.cellsOf 9)) := hf 6 _ rfl
  rw [hc] at f0 f1 f2 f3 f4 f5
  rw [hc2] at f6
  obtain ⟨k, e0, _⟩ := Rd.int Tryz.underlying3 f0
  obtain ⟨f, e1, _⟩ := Rd.int Tryz.underlying3 f1
  obtain ⟨t, e2, _⟩ := Rd.int Tryz.underlying3 f2
  obtain ⟨i, e3, _⟩ := Rd.int Tryz.underlying3 f3
  obtain ⟨p, e4, _⟩ := Rd.int Tryz.underlying3 f4
  obtain ⟨s, e5, _⟩ := Rd.int Tryz.underlying3 f5
  obtain ⟨b, e6, hb⟩ := Rd.string Tryz.underlying9 f6
  have one : ∀ {i : Nat} {v : Value}, (a.toList.drop i).take 1 = [v] → a.toList[i]? = some v := fun {i v} h => by
    have h9 : ((a.toList.drop i).take 1)[0]? = some v := by rw [h]; rfl
    rw [List.getElem?_take, if_pos (by omega), List.getElem?_drop, Nat.add_zero] at h9
    exact h9
  have g0 := one e0
  have g1 := one e1
  have g2 := one e2
  have g3 := one e3
  have g4 := one e4
  have g5 := one e5
  have g6 := one e6
  refine ⟨k, f, t, i, p, s, b, ?_, hb⟩
  apply Array.ext'
  apply List.ext_getElem?
  intro j
  have hl : a.toList.length = 7 := by rw [Array.length_toList]; exact hn
  rcases (by omega : j = 0 ∨ j = 1 ∨ j = 2 ∨ j = 3 ∨ j = 4 ∨ j = 5 ∨ j = 6 ∨ 7 ≤ j) with rfl | rfl | rfl | rfl | rfl | rfl | rfl | h9
  · exact g0
  · exact g1
  · exact g2
  · exact g3
  · exact g4
  · exact g5
  · exact g6
  · rw [List.getElem?_eq_none (by omega), List.getElem?_eq_none (by simpa using h9)]
end Go.Proofs.YtdphdodjidbngaaGreat

namespace Go.Proofs.YtdphdodjidbngaaGreat
open Go.RowKit Go.Sort
set_option linter.unusedVariables false
set_option linter.unusedSimpArgs false

/-- Block G holds these bytes, that a conversion has made. -/
def BRow (w : World) (G c : Nat) (l : List UInt8) : Prop := ∃ cs : Array Value, w.heap[G]? = some (.cells cs 5 (cs.size, cs.size + 1)) ∧ l.length ≤ cs.size ∧ l.length ≤ c ∧ c ≤ maxLen ∧ ∀ i, i < l.length → cs[i]? = some (.int .u8 ((l.getD i 0).toNat : Int))
theorem BRow.cell {w : World} {G c : Nat} {l : List UInt8} (h : BRow w G c l) (i : Nat) (hi : i < l.length) : w.cell? ⟨G, i, none⟩ = some (.int .u8 ((l.getD i 0).toNat : Int)) ∧ w.frozen? ⟨G, i, none⟩ = false := by
  obtain ⟨cs, h1, h2, h3, h4, h5⟩ := h
  refine ⟨by rw [cell_of_row w G i cs _ _ h1, h5 i hi], ?_⟩
  simp only [World.frozen?, h1]
  rw [Bool.and_eq_false_iff]
  exact .inl (decide_eq_false (by omega))
theorem BRow.bytes {w : World} {G c : Nat} {l : List UInt8} (h : BRow w G c l) : IsBytes w (some ⟨G, 0, none⟩) l.length c l := by
  obtain ⟨cs, h1, h2, h3, h4, h5⟩ := h
  refine ⟨by rw [bcells_length, Nat.mul_one], h3, h4, fun _ => ⟨G, 0, rfl, fun i hi => ?_⟩⟩
  rw [bcells_length] at hi
  rw [cell_of_row w G (0 + i) cs _ _ h1, Nat.zero_add, h5 i hi]
  simp [bcells, hi]
theorem BRow.below {w w' : World} {G c : Nat} {l : List UInt8} (h : BRow w G c l) (hb : Below w.heap.size w w') : BRow w' G c l := by
  obtain ⟨cs, h1, h2⟩ := h
  exact ⟨cs, keep0 h1 hb, h2⟩
theorem BRow.set {w : World} {G c : Nat} {l : List UInt8} (h : BRow w G c l) (i : Nat) (d : UInt8) (hi : i < l.length) : BRow (w.setCell ⟨G, i, none⟩ (.int .u8 (d.toNat : Int))) G c (l.set i d) := by
  obtain ⟨cs, h1, h2, h3, h4, h5⟩ := h
  refine ⟨cs.setIfInBounds i (.int .u8 (d.toNat : Int)), ?_, by simpa using h2, by simpa using h3, h4, fun j hj => ?_⟩
  · simp [World.setCell, Array.getElem?_modify, h1]
  · rw [List.length_set] at hj
    rw [Array.getElem?_setIfInBounds, List.getD_eq_getElem?_getD, List.getElem?_set]
    by_cases e : i = j
    · subst e
      rw [if_pos rfl, if_pos (by omega), if_pos rfl, if_pos hi]
      rfl
    · rw [if_neg e, if_neg e, h5 j hj, List.getD_eq_getElem?_getD]
/-- The law's packet and turns. -/
structure KSt (W w : World) (A B t0 t1 : Nat) (k f t i p s : Int) (b : ByteArray) : Prop where
  a : Pc 30 w A k f t i p s b
  b : w.heap[B]? = some (.cells #[.int .u32 (t0 : Int), .int .u32 (t1 : Int)] 52 (0, 0))
  bel : Below W.heap.size W w
theorem KSt.below {W w w' : World} {A B t0 t1 : Nat} {k f t i p s : Int} {b : ByteArray} (h : KSt W w A B t0 t1 k f t i p s b) (hb : Below w.heap.size w w') : KSt W w' A B t0 t1 k f t i p s b :=
  ⟨keep0 h.a hb, keep0 h.b hb, h.bel.trans (hb.mono h.bel.size)⟩
end Go.Proofs.YtdphdodjidbngaaGreat

