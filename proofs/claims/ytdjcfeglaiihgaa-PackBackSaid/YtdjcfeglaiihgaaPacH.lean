/- pack.Bytes, as a contract. -/
import Derived.Test.YtdjcfeglaiihgaaPacG
namespace Go.Proofs.Ytdjcfeglaiihgaa
open Go.RowKit Go.Sort
set_option linter.unusedVariables false
set_option linter.unusedSimpArgs false

/-- The first numbers of a packet, one behind the other. -/
def pre4 (xs : List Int) (j : Nat) : List UInt8 := ((xs.take j).map fun n => numB (cl n)).flatten
theorem pre4_succ (xs : List Int) (j : Nat) (h : j < xs.length) : pre4 xs (j + 1) = pre4 xs j ++ numB (cl (xs.getD j 0)) := by
  have e1 : xs.take (j + 1) = xs.take j ++ [xs[j]] := by rw [List.take_add_one, List.getElem?_eq_getElem h]; rfl
  rw [pre4, pre4, e1, List.map_append, List.flatten_append, List.getD_eq_getElem?_getD, List.getElem?_eq_getElem h]
  simp
theorem pre4_len (xs : List Int) (j : Nat) : (pre4 xs j).length ≤ 8 * j := by
  induction j with
  | zero => simp [pre4]
  | succ j ih =>
    by_cases h : j < xs.length
    · have := (numB_length _ (cl_le (xs.getD j 0))).2
      rw [pre4_succ xs j h, List.length_append]; omega
    · have e : xs.take (j + 1) = xs.take j := by rw [List.take_of_length_le (by omega), List.take_of_length_le (by omega)]
      rw [pre4, e]
      exact Nat.le_trans ih (by omega)
/-- A slice that reads as bytes, a packet's block, nothing old touched. -/
structure BSt (W w : World) (v : Value) (L : List UInt8) (k f t i p s : Int) (b : ByteArray) : Prop where
  v : ∃ A c, v = .slice A L.length c ∧ IsBytes w A L.length c L
  m : Pc 58 w W.heap.size k f t i p s b
  bel : Below W.heap.size W w
def OkStr (W : World) (x : ByteArray) (e : Ending) (w' : World) : Prop := e = .returned (.string x) ∧ Below W.heap.size W w'

set_option maxRecDepth 20000 in
set_option maxHeartbeats 4000000 in
theorem pbytes_ok (k : Nat) (f t i p s : Int) (b : ByteArray) (hb : b.size ≤ 1000) (hc : okP k f t i p s b.data.toList = true) (W : World) :
    Calls Try.prog 30 #[.agg #[.int .i64 k, .int .i64 f, .int .i64 t, .int .i64 i, .int .i64 p, .int .i64 s, .string b]] W (OkStr W (str (frP (plB k f t i p s b.data.toList)))) := by
  have hk4 : k ≤ 4 := by have := (okP_iff hc).1; omega
  have HC := hid (fun w => pcheck_any k f t i p s b w)
  rw [hc] at HC
  have HHP := hid (hasPeer_any k hk4)
  have HHS := hid (hasSeq_any k hk4)
  have HHB := hid (hasBody_any k hk4)
  have HXS := hid (pre4_succ [(k : Int), f, t, i])
  have hln := pre4_len [(k : Int), f, t, i]
  have HPL : Hid (plB k f t i p s b.data.toList = pre4 [(k : Int), f, t, i] 4 ++ pt (hpP k) p ++ pt (hpS k) s ++ ptT (hpB k) b.data.toList) := hid (by
    rw [plB, pre4]
    simp only [Int.toNat_natCast, List.take_succ_cons, List.take_zero, List.map_cons, List.map_nil, List.flatten_cons, List.flatten_nil, List.append_nil, List.append_assoc]
    rfl)
  have l1 := pt_len (hpP k) p
  have l2 := pt_len (hpS k) s
  have HBL := hid (show b.data.toList.length = b.size by rw [Array.length_toList]; rfl)
  have HCL : ∀ j, j < 4 → (#[Value.int .i64 (k : Int), .int .i64 f, .int .i64 t, .int .i64 i] : Array Value)[j]? = some (.int .i64 ([(k : Int), f, t, i].getD j 0)) := fun j hj => by
    rcases (by omega : j = 0 ∨ j = 1 ∨ j = 2 ∨ j = 3) with rfl | rfl | rfl | rfl <;> rfl
  have HCLH := hid HCL
  clear HCL hc hk4
  obtain ⟨OUT, hOUT⟩ : ∃ x, str (frP (plB k f t i p s b.data.toList)) = x := ⟨_, rfl⟩
  rw [hOUT]
  have HOUT := hid hOUT
  clear hOUT
  have hx4 : ([(k : Int), f, t, i] : List Int).length = 4 := rfl
  rw [hx4] at HXS
  clear hx4
  have k0 : Pc 58 (W.alloc (.cells #[.int .i64 k, .int .i64 f, .int .i64 t, .int .i64 i, .int .i64 p, .int .i64 s, .string b] 58)) W.heap.size k f t i p s b := heap_alloc_new _ _
  have hb0 : Below W.heap.size W (W.alloc (.cells #[.int .i64 k, .int .i64 f, .int .i64 t, .int .i64 i, .int .i64 p, .int .i64 s, .string b] 58)) := (Below.refl _ _).alloc (Nat.le_refl _) _
  go_enter Try.func30, Try.ntmps30
  go_upto_region 1 with (fail)
  refine at_world (fun w => Pc 58 w W.heap.size k f t i p s b ∧ Below W.heap.size W w) ⟨k0, hb0⟩ ?_
  clear k0 hb0
  rintro w1 ⟨hm1, hB1⟩
  obtain ⟨⟨p0, p1, p2, p3, p4, p5, p6⟩, f0, f1, f2, f3, f4, f5, f6⟩ := seven_cells hm1
  go_wp2_with fail
  refine (HC.out _).mono ?_
  rintro x w2 ⟨rfl, hb2⟩
  have HM2 := hid (show Pc 58 w2 W.heap.size k f t i p s b from keep0 hm1 hb2)
  have HB2 := hid (hB1.trans (hb2.mono hB1.size))
  clear hm1 hB1 hb2 HC p0 p1 p2 p3 p4 p5 p6 f0 f1 f2 f3 f4 f5 f6
  obtain ⟨⟨p0, p1, p2, p3, p4, p5, p6⟩, f0, f1, f2, f3, f4, f5, f6⟩ := seven_cells HM2.out
  have HX2 : Hid ((w2.alloc (.cells #[.int .i64 k, .int .i64 f, .int .i64 t, .int .i64 i] 3)).heap[w2.heap.size]? = some (.cells #[.int .i64 k, .int .i64 f, .int .i64 t, .int .i64 i] 3 (0, 0))) := hid (heap_alloc_new _ _)
  have HM3 := hid (show Pc 58 (w2.alloc (.cells #[.int .i64 k, .int .i64 f, .int .i64 t, .int .i64 i] 3)) W.heap.size k f t i p s b from keep0 HM2.out ((Below.refl _ _).alloc (Nat.le_refl _) _))
  have HB3 := hid (HB2.out.alloc HB2.out.size (.cells #[.int .i64 k, .int .i64 f, .int .i64 t, .int .i64 i] 3))
  clear HM2
  go_wp2_with fail
  have hX2 := HX2.out
  clear HX2 p0 p1 p2 p3 p4 p5 p6 f0 f1 f2 f3 f4 f5 f6
  generalize w2.heap.size = X at hX2 ⊢
  have H3 := hid (And.intro hX2 (And.intro HM3.out HB3.out))
  clear hX2 HM3 HB3 HB2
  go_loopw [3, 19] (fun bv iv wr => ∃ j : Nat, j ≤ 4 ∧ iv = .int .i64 (j : Int) ∧ Hid (wr.heap[X]? = some (.cells #[.int .i64 k, .int .i64 f, .int .i64 t, .int .i64 i] 3 (0, 0))) ∧ Hid (BSt W wr bv (pre4 [(k : Int), f, t, i] j) k f t i p s b)) (fun _ iv _ => 4 - (intOf iv).toNat)
  case atStart => exact ⟨0, by omega, rfl, H3.out.1, ⟨⟨none, 0, rfl, isBytes_nil _ _ _ (Nat.zero_le _)⟩, H3.out.2.1, H3.out.2.2⟩⟩
  case round =>
    obtain ⟨j, hj, rfl, HX, HS⟩ := hrel
    clear H3
    obtain ⟨A, c, rfl, hs⟩ := HS.out.v
    have hlj := hln j
    by_cases hlt : j < 4
    · have hlt2 : (j : Int) < 4 := by omega
      have hc := cell_of_row wr X j _ _ _ HX.out
      rw [HCLH.out j hlt] at hc
      have HSU := hid (HXS.out j hlt)
      have HN := hid (num_any A (pre4 [(k : Int), f, t, i] j).length c _ ([(k : Int), f, t, i].getD j 0) wr hs (by omega))
      clear hs
      generalize [(k : Int), f, t, i].getD j 0 = x at *
      generalize pre4 [(k : Int), f, t, i] j = L at *
      obtain ⟨L2, hL2⟩ : ∃ L2, pre4 [(k : Int), f, t, i] (j + 1) = L2 := ⟨_, rfl⟩
      rw [hL2] at HSU
      have HL2 := hid hL2
      clear hL2
      have HLJ := hid hlj
      clear hlj
      go_wp2_with fail
      refine HN.out.mono ?_
      rintro y w4 ⟨v, rfl, ho, hb4⟩
      rw [← List.length_append, ← HSU.out] at ho
      obtain ⟨A4, c4, rfl, hs4⟩ := own_bytes ho
      have HS4 : Hid (BSt W w4 (.slice A4 L2.length c4) L2 k f t i p s b) := hid ⟨⟨A4, c4, rfl, hs4⟩, keep0 HS.out.m hb4, HS.out.bel.trans (hb4.mono HS.out.bel.size)⟩
      have HX4 := hid (keep0 HX.out hb4)
      clear ho hs4 hb4 HN HS HX hc
      go_wp2
      go_roundw
      case rel => exact ⟨j + 1, by omega, by go_num, HX4.out, by rw [Hid, HL2.out]; exact HS4.out⟩
      case measure => simp [intOf]; omega
    · obtain rfl : j = 4 := by omega
      clear hlt hj HX hs
      obtain ⟨L0, hL0⟩ : ∃ L0, pre4 [(k : Int), f, t, i] 4 = L0 := ⟨_, rfl⟩
      rw [hL0] at HPL hlj ⊢
      have HS0 : Hid (BSt W wr (.slice A L0.length c) L0 k f t i p s b) := hid (by rw [← hL0]; exact HS.out)
      clear hL0 HS hln HXS HCLH
      generalize hpP k = hp at *
      generalize hpS k = hq at *
      generalize hpB k = hr at *
      obtain ⟨L1, hL1⟩ : ∃ L1, L0 ++ pt hp p = L1 := ⟨_, rfl⟩
      obtain ⟨L2, hL2⟩ : ∃ L2, L1 ++ pt hq s = L2 := ⟨_, rfl⟩
      obtain ⟨L3, hL3⟩ : ∃ L3, L2 ++ ptT hr b.data.toList = L3 := ⟨_, rfl⟩
      have hl1 : L1.length ≤ 40 := by rw [← hL1, List.length_append]; omega
      have hl2 : L2.length ≤ 48 := by rw [← hL2, List.length_append]; omega
      rw [hL1, hL2, hL3] at HPL
      have HL1 := hid hL1
      have HL2 := hid hL2
      have HL3 := hid hL3
      have HLL := hid (And.intro hlj (And.intro hl1 hl2))
      clear hL1 hL2 hL3 l1 l2 hlj hl1 hl2
      obtain ⟨⟨p0, p1, p2, p3, p4, p5, p6⟩, f0, f1, f2, f3, f4, f5, f6⟩ := seven_cells HS0.out.m
      go_upto_if 29 with (go_at_call 59; refine (HHP.out _).mono ?_; rintro y w' ⟨rfl, rfl⟩)
      go_cut [3] from 30 to 33 (fun v wx => Hid (BSt W wx v L1 k f t i p s b))
      case first =>
        cases hp
        case false =>
          go_wp2
          go_meet
          obtain rfl : L0 = L1 := by rw [← HL1.out]; simp [pt]
          exact HS0.out
        case true =>
          have HN : Hid (Calls Try.prog 44 #[.slice A L0.length c, .int .i64 p] wr fun e w' => ∃ v, e = .returned v ∧ w'.ownsRow wr.heap.size 5 1 v (L0.length + (numB (cl p)).length) (bcells (L0 ++ numB (cl p))) ∧ Below wr.heap.size wr w') := hid (by
            obtain ⟨A', c', h1, h2⟩ := HS0.out.v
            cases h1
            exact num_any A _ c _ p wr h2 (by have := HLL.out; omega))
          go_wp2_with fail
          refine HN.out.mono ?_
          rintro y w4 ⟨v, rfl, ho, hb4⟩
          rw [← List.length_append, show L0 ++ numB (cl p) = L1 from HL1.out] at ho
          obtain ⟨A4, c4, rfl, hs4⟩ := own_bytes ho
          have HS4 : Hid (BSt W w4 (.slice A4 L1.length c4) L1 k f t i p s b) := hid ⟨⟨A4, c4, rfl, hs4⟩, keep0 HS0.out.m hb4, HS0.out.bel.trans (hb4.mono HS0.out.bel.size)⟩
          clear ho hs4 hb4 HN
          go_wp2
          go_meet
          exact HS4.out
      case rest =>
        clear HS0 HL1 HHP p0 p1 p2 p3 p4 p5 p6 f0 f1 f2 f3 f4 f5 f6
        have HS0 := hid hcut.out
        obtain ⟨A, c, rfl, hs⟩ := HS0.out.v
        clear hs hcut
        obtain ⟨⟨p0, p1, p2, p3, p4, p5, p6⟩, f0, f1, f2, f3, f4, f5, f6⟩ := seven_cells HS0.out.m
        go_upto_if 36 with (go_at_call 60; refine (HHS.out _).mono ?_; rintro y w' ⟨rfl, rfl⟩)
        go_cut [3] from 37 to 40 (fun v wx => Hid (BSt W wx v L2 k f t i p s b))
        case first =>
          cases hq
          case false =>
            go_wp2
            go_meet
            obtain rfl : L1 = L2 := by rw [← HL2.out]; simp [pt]
            exact HS0.out
          case true =>
            have HN : Hid (Calls Try.prog 44 #[.slice A L1.length c, .int .i64 s] wc fun e w' => ∃ v, e = .returned v ∧ w'.ownsRow wc.heap.size 5 1 v (L1.length + (numB (cl s)).length) (bcells (L1 ++ numB (cl s))) ∧ Below wc.heap.size wc w') := hid (by
              obtain ⟨A', c', h1, h2⟩ := HS0.out.v
              cases h1
              exact num_any A _ c _ s wc h2 (by have := HLL.out; omega))
            go_wp2_with fail
            refine HN.out.mono ?_
            rintro y w4 ⟨v, rfl, ho, hb4⟩
            rw [← List.length_append, show L1 ++ numB (cl s) = L2 from HL2.out] at ho
            obtain ⟨A4, c4, rfl, hs4⟩ := own_bytes ho
            have HS4 : Hid (BSt W w4 (.slice A4 L2.length c4) L2 k f t i p s b) := hid ⟨⟨A4, c4, rfl, hs4⟩, keep0 HS0.out.m hb4, HS0.out.bel.trans (hb4.mono HS0.out.bel.size)⟩
            clear ho hs4 hb4 HN
            go_wp2
            go_meet
            exact HS4.out
        case rest =>
          clear HS0 HL2 HHS p0 p1 p2 p3 p4 p5 p6 f0 f1 f2 f3 f4 f5 f6
          have HS0 := hid hcut.out
          obtain ⟨A, c, rfl, hs⟩ := HS0.out.v
          clear hs hcut
          obtain ⟨⟨p0, p1, p2, p3, p4, p5, p6⟩, f0, f1, f2, f3, f4, f5, f6⟩ := seven_cells HS0.out.m
          go_upto_if 43 with (go_at_call 61; refine (HHB.out _).mono ?_; rintro y w' ⟨rfl, rfl⟩)
          go_cut [3] from 44 to 47 (fun v wx => Hid (BSt W wx v L3 k f t i p s b))
          case first =>
            cases hr
            case false =>
              go_wp2
              go_meet
              obtain rfl : L2 = L3 := by rw [← HL3.out]; simp [ptT]
              exact HS0.out
            case true =>
              have HN : Hid (Calls Try.prog 47 #[.slice A L2.length c, .string b] wc fun e w' => ∃ v, e = .returned v ∧ w'.ownsRow wc.heap.size 5 1 v L3.length (bcells L3) ∧ Below wc.heap.size wc w') := hid (by
                obtain ⟨A', c', h1, h2⟩ := HS0.out.v
                cases h1
                have h3 := text_any A _ c L2 b wc h2 (by have := HLL.out; omega) (by omega)
                have h4 : L2 ++ numB b.size ++ b.data.toList = L3 := by rw [← HL3.out, ptT, if_pos rfl, HBL.out, List.append_assoc]
                have h5 : L2.length + (numB b.size).length + b.size = L3.length := by rw [← h4, List.length_append, List.length_append, HBL.out]
                rw [h4, h5] at h3
                exact h3)
              go_wp2_with fail
              refine HN.out.mono ?_
              rintro y w4 ⟨v, rfl, ho, hb4⟩
              obtain ⟨A4, c4, rfl, hs4⟩ := own_bytes ho
              have HS4 : Hid (BSt W w4 (.slice A4 L3.length c4) L3 k f t i p s b) := hid ⟨⟨A4, c4, rfl, hs4⟩, keep0 HS0.out.m hb4, HS0.out.bel.trans (hb4.mono HS0.out.bel.size)⟩
              clear ho hs4 hb4 HN
              go_wp2
              go_meet
              exact HS4.out
          case rest =>
            have HL3L : Hid (L3.length ≤ 2000) := hid (by
              rw [← HL3.out, List.length_append]
              have := HLL.out
              have h9 : (ptT hr b.data.toList).length ≤ 8 + b.size := by
                cases hr with
                | false => simp [ptT]
                | true =>
                  have := (numB_length b.data.toList.length (by rw [HBL.out]; omega)).2
                  simp only [ptT, if_true, List.length_append, HBL.out] at this ⊢
                  omega
              omega)
            clear HS0 HL3 HHB p0 p1 p2 p3 p4 p5 p6 f0 f1 f2 f3 f4 f5 f6 HBL HLL
            have HS0 := hid hcut.out
            obtain ⟨A, c, rfl, hs⟩ := HS0.out.v
            have hcv := convS3 hs
            have hst : (str L3).data.toList = L3 := by simp [str]
            have HPU := hid (fput_any none 0 0 [] (str L3) wc (isBytes_nil _ _ _ (Nat.zero_le _)) (by simp) (by rw [str_size]; have := HL3L.out; omega))
            rw [hst, List.nil_append] at HPU
            rw [HPL.out] at HOUT
            have HB0 := hid HS0.out.bel
            clear hs hcut HS0 hst HL3L
            generalize frP L3 = fr at *
            go_wp2_with fail
            refine HPU.out.mono ?_
            rintro y w4 ⟨A4, c4, rfl, ho, hb4⟩
            obtain ⟨A5, c5, h5, hs5⟩ := own_bytes ho
            cases h5
            have hcv2 := convS3 hs5
            have HB4 := hid (HB0.out.trans (hb4.mono HB0.out.size))
            clear hs5 ho hb4 HPU hcv
            generalize fr.length = n at *
            generalize str fr = sf at *
            go_wp2
            go_ret
            exact ⟨by rw [HOUT.out]; rfl, HB4.out⟩
end Go.Proofs.Ytdjcfeglaiihgaa
