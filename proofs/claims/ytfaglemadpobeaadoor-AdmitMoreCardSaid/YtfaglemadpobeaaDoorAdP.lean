/- Admit: Index; Row and its closure; Implies: contracts; the page's example. -/
import Derived.Test.YtfaglemadpobeaaDoorAdB
namespace Go.Proofs.YtfaglemadpobeaaDoor
open Go.RowKit Go.Sort
set_option linter.unusedVariables false
set_option linter.unusedSimpArgs false

def ixF (l : List Int) (x : Int) : Int := if x ∈ l then (l.idxOf x : Nat) else -1
theorem idx_first : ∀ (l : List Int) (x : Int) (k : Nat) (hk : k < l.length), (∀ j (hj : j < l.length), j < k → l[j] ≠ x) → l[k] = x → l.idxOf x = k
  | [], x, k, hk, _, _ => absurd hk (by simp)
  | y :: l, x, 0, hk, _, h => by
    simp only [List.getElem_cons_zero] at h
    subst h
    simp
  | y :: l, x, k + 1, hk, hn, h => by
    have h0 : y ≠ x := hn 0 (by simp) (by omega)
    have h1 := idx_first l x k (by simpa using hk) (fun j hj hjk => by
      have := hn (j + 1) (by simpa using hj) (by omega)
      simpa using this) (by simpa using h)
    have hb : (y == x) = false := by simpa using h0
    rw [List.idxOf_cons, hb, h1]
    rfl
set_option maxRecDepth 20000 in
set_option maxHeartbeats 2000000 in
theorem index_any (A : Option Addr) (cap : Nat) (l : List Int) (x : Int) (W : World) (h : Sl W 1 A l.length cap (icells .i64 l)) (hl : l.length ≤ 1000) :
    Calls Tryd.prog 29 #[.slice A l.length cap, .int .i64 x] W fun e w' => e = .returned (.int .i64 (ixF l x)) ∧ W = w' := by
  have HS := hid h
  have hl2 : (l.length : Int) ≤ 1000 := by omega
  clear h
  go_enter Tryd.func29, Tryd.ntmps29
  go_wp2_with fail
  go_loopw [5, 8] (fun _ i wr => ∃ k : Nat, k ≤ l.length ∧ i = .int .i64 (k : Int) ∧ Hid (∀ j (hj : j < l.length), j < k → l[j] ≠ x) ∧ W = wr) (fun _ i _ => l.length - (intOf i).toNat)
  case atStart => exact ⟨0, by omega, rfl, fun j _ h => absurd h (by omega), rfl⟩
  case round =>
    obtain ⟨k, hk, rfl, HN, rfl⟩ := hrel
    by_cases hlt : k < l.length
    · have hlt2 : (k : Int) < (l.length : Int) := by omega
      obtain ⟨b, off, rfl⟩ := HS.out.addr (by rw [icells_length]; omega)
      have hc := HS.out.cell k hlt
      have hg9 : l.getD k 0 = l[k] := by rw [List.getD_eq_getElem?_getD, List.getElem?_eq_getElem hlt]; rfl
      rw [hg9] at hc
      clear hg9
      by_cases he : l[k] = x
      · have HI : Hid (ixF l x = (k : Int)) := hid (by
          unfold ixF
          rw [if_pos (by rw [← he]; exact List.getElem_mem hlt), idx_first l x k hlt HN.out he])
        rw [he] at hc
        clear he
        go_wp2
        go_ret
        exact ⟨by rw [HI.out]; rfl, rfl⟩
      · have HN2 : Hid (∀ j (hj : j < l.length), j < k + 1 → l[j] ≠ x) := hid (fun j hj hjk => by
          by_cases hjk2 : j < k
          · exact HN.out j hj hjk2
          · obtain rfl : j = k := by omega
            exact he)
        have hne : ¬ x = l[k] := fun h => he h.symm
        clear he
        generalize l[k] = y at *
        go_wp2
        go_roundw
        case rel => exact ⟨k + 1, by omega, by go_num, HN2.out, by first | rfl | trivial⟩
        case measure => simp [intOf]; omega
    · have hge : ¬ (k : Int) < (l.length : Int) := by omega
      have HI : Hid (ixF l x = -1) := hid (by
        unfold ixF
        rw [if_neg]
        intro hm
        obtain ⟨j, hj, hjx⟩ := List.getElem_of_mem hm
        exact HN.out j hj (by omega) hjx)
      go_wp2
      go_ret
      exact ⟨by rw [HI.out]; rfl, rfl⟩

def rowsT : List Nat := [12297829382473034410, 14757395258967641292, 17361641481138401520, 18374966859414961920, 18446462603027742720, 18446744069414584320]
def RowsAt (w : World) : Prop := ∀ i : Nat, i < 6 → w.cell? ⟨0, i, none⟩ = some (.int .u64 ((rowsT.getD i 0 : Nat) : Int))
theorem RowsAt.below {w w' : World} (h : RowsAt w) (hb : Below w.heap.size w w') : RowsAt w' := fun i hi => cellb hb (h i hi)
def rowR (attrs : List Int) (x : Int) : Nat := if x ∈ attrs then rowsT.getD (attrs.idxOf x) 0 else 0
theorem rowsT_lt (i : Nat) : rowsT.getD i 0 < 18446744073709551616 := by
  by_cases h : i < 6
  · have : i = 0 ∨ i = 1 ∨ i = 2 ∨ i = 3 ∨ i = 4 ∨ i = 5 := by omega
    rcases this with rfl | rfl | rfl | rfl | rfl | rfl <;> decide
  · rw [List.getD_eq_getElem?_getD, List.getElem?_eq_none (by simp [rowsT]; omega)]
    decide
theorem rowR_lt (attrs : List Int) (x : Int) : rowR attrs x < 18446744073709551616 := by
  unfold rowR
  split
  · exact rowsT_lt _
  · decide
set_option maxRecDepth 20000 in
set_option maxHeartbeats 2000000 in
theorem rowc_any (attrs : List Int) (A : Option Addr) (cap P : Nat) (x : Int) (W : World) (hp : W.cell? ⟨P, 0, none⟩ = some (.slice A attrs.length cap)) (h : Sl W 1 A attrs.length cap (icells .i64 attrs)) (h6 : attrs.length ≤ 6) (hT : RowsAt W) :
    Calls Tryd.prog 28 #[.int .i64 x, .pointer (some ⟨P, 0, none⟩)] W fun e w' => e = .returned (.int .u64 (rowR attrs x : Nat)) ∧ Below W.heap.size W w' := by
  have HI := hid (index_any A cap attrs x W h (by omega))
  by_cases hm : x ∈ attrs
  · have hk : attrs.idxOf x < attrs.length := List.idxOf_lt_length_of_mem hm
    have hix : ixF attrs x = ((attrs.idxOf x : Nat) : Int) := by unfold ixF; rw [if_pos hm]
    have HV : Hid (rowR attrs x = rowsT.getD (attrs.idxOf x) 0) := hid (by unfold rowR; rw [if_pos hm])
    rw [hix] at HI
    generalize attrs.idxOf x = k at *
    have hk6 : k < 6 := by omega
    have hc := hT k hk6
    have hk0 : ¬ (k : Int) < 0 := by omega
    have hk6' : (k : Int) < 6 := by omega
    generalize attrs.length = n at *
    generalize rowsT.getD k 0 = v at *
    clear h hT hm hix
    go_enter Tryd.func28, Tryd.ntmps28
    go_wp2_with fail
    refine HI.out.mono ?_
    rintro e w2 ⟨rfl, rfl⟩
    go_wp2
    go_ret
    exact ⟨by rw [HV.out]; rfl, Below.refl _ _⟩
  · have hix : ixF attrs x = -1 := by unfold ixF; rw [if_neg hm]
    have HV : Hid (rowR attrs x = 0) := hid (by unfold rowR; rw [if_neg hm])
    rw [hix] at HI
    generalize attrs.length = n at *
    clear h hT hm hix
    go_enter Tryd.func28, Tryd.ntmps28
    go_wp2_with fail
    refine HI.out.mono ?_
    rintro e w2 ⟨rfl, rfl⟩
    go_wp2
    go_ret
    exact ⟨by rw [HV.out]; rfl, Below.refl _ _⟩

def rowS (l : List (Int × Int)) (attrs : List Int) : Nat := if 6 < attrs.length then 0 else valL (rowR attrs) l
theorem rowS_lt (l : List (Int × Int)) (attrs : List Int) : rowS l attrs < 18446744073709551616 := by
  unfold rowS
  split
  · decide
  · exact valL_lt (rowR_lt attrs) l
set_option maxRecDepth 20000 in
set_option maxHeartbeats 2000000 in
theorem row_any (A : Option Addr) (cap : Nat) (l : List (Int × Int)) (B : Option Addr) (cb : Nat) (attrs : List Int) (W : World) (h : Sl W 2 A l.length cap (pcells l)) (hl : l.length ≤ 1000) (ha : Sl W 1 B attrs.length cb (icells .i64 attrs)) (hal : attrs.length ≤ 1000) (hT : RowsAt W) :
    Calls Tryd.prog 13 #[.slice A l.length cap, .slice B attrs.length cb] W fun e w' => e = .returned (.int .u64 (rowS l attrs : Nat)) ∧ Below W.heap.size W w' := by
  by_cases h6 : 6 < attrs.length
  · have HV : Hid (rowS l attrs = 0) := hid (by unfold rowS; rw [if_pos h6])
    have h7 : (6 : Int) < (attrs.length : Int) := by omega
    clear h hl ha hT h6
    generalize attrs.length = n at *
    go_enter Tryd.func13, Tryd.ntmps13
    go_wp2
    go_ret
    exact ⟨by rw [HV.out]; rfl, (Below.refl _ _).alloc (Nat.le_refl _) _⟩
  · have HV : Hid (rowS l attrs = valL (rowR attrs) l) := hid (by unfold rowS; rw [if_neg h6])
    have HVC := hid (fun (P : Nat) (w1 : World) (hb : Below W.heap.size W w1) (hp : w1.cell? ⟨P, 0, none⟩ = some (.slice B attrs.length cb)) =>
      values_any (rowR attrs) (rowR_lt attrs) 28 ⟨P, 0, none⟩ A cap l w1 (h.below hb) hl (fun _ _ => by kernel_rfl)
        (fun n w2 _ _ hb2 => rowc_any attrs B cb P n w2 (cellb hb2 hp) ((ha.below hb).below hb2) (by omega) ((hT.below hb).below hb2)))
    have h7 : ¬ (6 : Int) < (attrs.length : Int) := by omega
    have HB1 : Hid (∀ o, Below W.heap.size W (W.alloc o)) := hid (fun o => (Below.refl _ _).alloc (Nat.le_refl _) _)
    have HCN : Hid (∀ v t, (W.alloc (.cells #[v] t)).cell? ⟨W.heap.size, 0, none⟩ = some v) := hid (fun v t => cell_one_new W v t 0 _ rfl)
    clear h hl ha hT h6 hal
    generalize attrs.length = n at *
    generalize valL (rowR attrs) l = r at *
    have hmf : ∀ (fn : Fn) (first cap : Array Value) (w : World), (Instr.makeFunc fn first cap).run Tryd.prog w = .ok (.func fn first cap) w := fun _ _ _ _ => rfl
    go_enter Tryd.func13, Tryd.ntmps13
    go_wp2_with fail
    refine (HVC.out _ _ (HB1.out _) (HCN.out _ _)).mono ?_
    rintro e w2 ⟨rfl, hb2⟩
    have HB2 := hid ((HB1.out _).trans (hb2.mono (HB1.out _).size))
    clear hb2
    go_wp2
    go_ret
    exact ⟨by rw [HV.out]; rfl, HB2.out⟩
/-- Whether a need implies another, in the program's words. -/
def impE (a b : List (Int × Int)) : Int := if chkN a = 0 then (if chkN b = 0 then (if 6 < (elems (askN a ||| askN b)).length then 4 else 0) else 1) else 1
def impB (a b : List (Int × Int)) : Bool := if impE a b = 0 then (rowS a (elems (askN a ||| askN b)) &&& (18446744073709551615 - rowS b (elems (askN a ||| askN b))) == 0) else false
theorem asks_u64 (l : List (Int × Int)) : askN l < 18446744073709551616 := by
  unfold askN
  split
  · split
    · exact asks_lt _
    · decide
  · decide
set_option maxRecDepth 20000 in
set_option maxHeartbeats 4000000 in
theorem implies_any (A : Option Addr) (ca : Nat) (a : List (Int × Int)) (B : Option Addr) (cb : Nat) (b : List (Int × Int)) (W : World) (ha : Sl W 2 A a.length ca (pcells a)) (hal : a.length ≤ 1000) (hb : Sl W 2 B b.length cb (pcells b)) (hbl : b.length ≤ 1000) (hT : RowsAt W) :
    Calls Tryd.prog 11 #[.slice A a.length ca, .slice B b.length cb] W fun e w' => e = .returned (.tuple #[.bool (impB a b), .int .i64 (impE a b)]) ∧ Below W.heap.size W w' := by
  have HCA := hid (ncheck_any A ca a W ha hal)
  have HCB := hid (fun w (hw : Below W.heap.size W w) => ncheck_any B cb b w (hb.below hw) hbl)
  have HQA := hid (fun w (hw : Below W.heap.size W w) => nasks_any A ca a w (ha.below hw) hal)
  have HQB := hid (fun w (hw : Below W.heap.size W w) => nasks_any B cb b w (hb.below hw) hbl)
  by_cases h1 : chkN a = 0
  · by_cases h2 : chkN b = 0
    · have hqa := asks_u64 a
      have hqb := asks_u64 b
      have HOR := hid (u64_or_nat (askN a) (askN b) hqa hqb)
      have hz : askN a ||| askN b < 18446744073709551616 := Nat.or_lt_two_pow (n := 64) hqa hqb
      have HL := hid (fun w => list_any (askN a ||| askN b) hz w)
      have hel := elemsU_len (askN a ||| askN b) 64
      rw [← elems_def] at hel
      have HE : Hid (impE a b = if 6 < (elems (askN a ||| askN b)).length then 4 else 0) := hid (by unfold impE; rw [if_pos h1, if_pos h2])
      have HIB : Hid (impB a b = if impE a b = 0 then (rowS a (elems (askN a ||| askN b)) &&& (18446744073709551615 - rowS b (elems (askN a ||| askN b))) == 0) else false) := hid rfl
      generalize elems (askN a ||| askN b) = es at *
      generalize askN a ||| askN b = z at *
      rw [h1] at HCA
      rw [h2] at HCB
      have HRA := hid (fun w (hw : Below W.heap.size W w) C cc hC => row_any A ca a C cc es w (ha.below hw) hal hC (by omega) (hT.below hw))
      have HRB := hid (fun w (hw : Below W.heap.size W w) C cc hC => row_any B cb b C cc es w (hb.below hw) hbl hC (by omega) (hT.below hw))
      have hra := rowS_lt a es
      have hrb := rowS_lt b es
      have HAN := hid (u64_andNot_nat (rowS a es) (rowS b es) hra hrb)
      generalize rowS a es = ra at *
      generalize rowS b es = rb at *
      have hel2 : (es.length : Int) ≤ 64 := by omega
      clear ha hb hT hal hbl h1 h2 hqa hqb hz
      generalize impB a b = ib at *
      generalize impE a b = ie at *
      generalize askN a = qa at *
      generalize askN b = qb at *
      go_enter Tryd.func11, Tryd.ntmps11
      go_wp2_with fail
      refine HCA.out.mono ?_
      rintro e w1 ⟨rfl, hb1⟩
      have HB1 := hid hb1
      clear hb1 HCA
      go_wp2_with fail
      refine (HCB.out _ HB1.out).mono ?_
      rintro e w2 ⟨rfl, hb2⟩
      have HB2 := hid (HB1.out.trans (hb2.mono HB1.out.size))
      clear hb2 HCB HB1
      go_wp2_with fail
      refine (HQA.out _ HB2.out).mono ?_
      rintro e w3 ⟨rfl, hb3⟩
      have HB3 := hid (HB2.out.trans (hb3.mono HB2.out.size))
      clear hb3 HQA HB2
      go_wp2_with fail
      refine (HQB.out _ HB3.out).mono ?_
      rintro e w4 ⟨rfl, hb4⟩
      have HB4 := hid (HB3.out.trans (hb4.mono HB3.out.size))
      clear hb4 HQB HB3
      go_wp2_with fail
      rw [HOR.out]
      refine (HL.out _).mono ?_
      rintro e w5 ⟨v, rfl, hb5, ho5⟩
      obtain ⟨C, cc, rfl, hs5⟩ := Sl.of_own ho5
      have HB5 := hid (HB4.out.trans (hb5.mono HB4.out.size))
      have HS5 := hid hs5
      clear hb5 ho5 hs5 HL HB4
      by_cases h6 : 6 < es.length
      · have h7 : (6 : Int) < (es.length : Int) := by omega
        have HEE : Hid (ie = 4) := hid (by rw [HE.out, if_pos h6])
        have HII : Hid (ib = false) := hid (by rw [HIB.out, if_neg (by rw [HEE.out]; decide)])
        clear h6
        generalize es.length = n at *
        go_wp2
        go_ret2
        exact ⟨by rw [HEE.out, HII.out]; rfl, HB5.out⟩
      · have h7 : ¬ (6 : Int) < (es.length : Int) := by omega
        have HEE : Hid (ie = 0) := hid (by rw [HE.out, if_neg h6])
        have HII : Hid (ib = (ra &&& (18446744073709551615 - rb) == 0)) := hid (by rw [HIB.out, if_pos HEE.out])
        have HR1 := hid (HRA.out _ HB5.out C cc HS5.out)
        have HR2 := hid (fun w (hw : Below w5.heap.size w5 w) => HRB.out w (HB5.out.trans (hw.mono HB5.out.size)) C cc (HS5.out.below hw))
        clear h6 HRA HRB HS5
        generalize es.length = n at *
        go_wp2_with fail
        refine HR1.out.mono ?_
        rintro e w6 ⟨rfl, hb6⟩
        have HB6 := hid hb6
        clear hb6 HR1
        go_wp2_with fail
        refine (HR2.out _ HB6.out).mono ?_
        rintro e w7 ⟨rfl, hb7⟩
        have HB7 := hid (HB5.out.trans ((HB6.out.trans (hb7.mono HB6.out.size)).mono HB5.out.size))
        clear hb7 HR2 HB6 HB5
        go_wp2
        go_ret2
        refine ⟨?_, HB7.out⟩
        rw [HEE.out, HII.out]
        simp only [HAN.out]
        generalize (ra &&& (18446744073709551615 - rb)) = q
        have e9 : (((q : Nat) : Int) == 0) = (q == 0) := by rw [Bool.eq_iff_iff, beq_iff_eq, beq_iff_eq]; omega
        rw [← e9]
        rfl
    · have HE : Hid (impE a b = 1) := hid (by unfold impE; rw [if_pos h1, if_neg h2])
      have HIB : Hid (impB a b = false) := hid (by unfold impB; rw [if_neg (by rw [HE.out]; decide)])
      rw [h1] at HCA
      clear ha hb hT hal hbl h1 HQA HQB
      generalize impB a b = ib at *
      generalize impE a b = ie at *
      generalize chkN b = kb at *
      generalize a.length = n at *
      generalize b.length = m at *
      go_enter Tryd.func11, Tryd.ntmps11
      go_wp2_with fail
      refine HCA.out.mono ?_
      rintro e w1 ⟨rfl, hb1⟩
      have HB1 := hid hb1
      clear hb1 HCA
      go_wp2_with fail
      refine (HCB.out _ HB1.out).mono ?_
      rintro e w2 ⟨rfl, hb2⟩
      have HB2 := hid (HB1.out.trans (hb2.mono HB1.out.size))
      clear hb2 HCB HB1
      go_wp2
      go_ret2
      exact ⟨by rw [HE.out, HIB.out]; rfl, HB2.out⟩
  · have HE : Hid (impE a b = 1) := hid (by unfold impE; rw [if_neg h1])
    have HIB : Hid (impB a b = false) := hid (by unfold impB; rw [if_neg (by rw [HE.out]; decide)])
    clear ha hb hT hal hbl HQA HQB HCB
    generalize impB a b = ib at *
    generalize impE a b = ie at *
    generalize chkN a = ka at *
    generalize a.length = n at *
    generalize b.length = m at *
    go_enter Tryd.func11, Tryd.ntmps11
    go_wp2_with fail
    refine HCA.out.mono ?_
    rintro e w1 ⟨rfl, hb1⟩
    have HB1 := hid hb1
    clear hb1 HCA
    go_wp2
    go_ret2
    exact ⟨by rw [HE.out, HIB.out]; rfl, HB1.out⟩
end Go.Proofs.YtfaglemadpobeaaDoor
