/- admit.values: a need for 64 sets of attributes at once: contract. -/
import Derived.Test.YthohedadmfbahaaDoorQAdE
import Derived.Test.YthohedadmfbahaaDoorGaP
import Derived.Deep.Cut
import Derived.Deep.CutRange
import Derived.Deep.RegionHeld3
import Derived.RegionTactic
namespace Go.Proofs.YthohedadmfbahaaDoor
open Go.RowKit Go.Sort
set_option linter.unusedVariables false
set_option linter.unusedSimpArgs false

def valS (r : Int → Nat) : Nt → Nat
  | .yes => 18446744073709551615
  | .attr n => r n
  | .not t => 18446744073709551615 ^^^ valS r t
  | .pair op a b => if op = 4 then valS r a &&& valS r b else valS r a ||| valS r b
theorem valS_lt {r : Int → Nat} (hr : ∀ n, r n < 18446744073709551616) : ∀ t, valS r t < 18446744073709551616
  | .yes => by simp [valS]
  | .attr n => hr n
  | .not t => by
    have := valS_lt hr t
    exact Nat.xor_lt_two_pow (n := 64) (by decide) this
  | .pair op a b => by
    have h1 := valS_lt hr a
    have h2 := valS_lt hr b
    rw [valS]
    split
    · exact Nat.and_lt_two_pow (n := 64) _ h2
    · exact Nat.or_lt_two_pow (n := 64) h1 h2
def valL (r : Int → Nat) (l : List (Int × Int)) : Nat := if chkN l = 0 then (match runN [] l with | some [t] => valS r t | _ => 0) else 0
theorem joinT_cases {ts us : List Nt} {op n : Int} (h : joinT ts (op, n) = some us) :
    (op = 1 ∧ us = ts ++ [.yes]) ∨ (op = 2 ∧ 0 ≤ n ∧ n < 16 ∧ us = ts ++ [.attr n]) ∨ (op = 3 ∧ ∃ vs t, ts = vs ++ [t] ∧ us = vs ++ [.not t]) ∨ (op = 4 ∧ ∃ vs t u, ts = vs ++ [t, u] ∧ us = vs ++ [.pair 4 t u]) ∨ (op = 5 ∧ ∃ vs t u, ts = vs ++ [t, u] ∧ us = vs ++ [.pair 5 t u]) := by
  unfold joinT at h
  simp only at h
  split at h
  · rename_i hc
    obtain ⟨rfl, h0, h1⟩ := hc
    exact .inr (.inl ⟨rfl, h0, h1, (Option.some.inj h).symm⟩)
  · split at h
    · exact absurd h (by simp)
    · split at h
      · rename_i hc3
        exact .inl ⟨hc3, (Option.some.inj h).symm⟩
      · split at h
        · rename_i hc4
          exact .inr (.inr (.inl ⟨hc4.1, _, _, last1 ts .yes hc4.2, (Option.some.inj h).symm⟩))
        · split at h
          · rename_i hc5
            obtain ⟨rfl | rfl, hl⟩ := hc5
            · exact .inr (.inr (.inr (.inl ⟨rfl, _, _, _, last2 ts .yes hl, (Option.some.inj h).symm⟩)))
            · exact .inr (.inr (.inr (.inr ⟨rfl, _, _, _, last2 ts .yes hl, (Option.some.inj h).symm⟩)))
          · exact absurd h (by simp)
def vc (r : Int → Nat) (ts : List Nt) : List Value := ts.map fun t => .int .u64 (valS r t : Nat)
theorem vc_append (r : Int → Nat) (l m : List Nt) : vc r (l ++ m) = vc r l ++ vc r m := by simp [vc]
theorem vc_len (r : Int → Nat) (l : List Nt) : (vc r l).length = l.length := by simp [vc]
theorem vc_one (r : Int → Nat) (l : List Nt) : ∀ u ∈ vc r l, u.oneCell' = true := fun u hu => by
  obtain ⟨t, _, rfl⟩ := List.mem_map.1 hu
  rfl
theorem info_u64 : (Tryd.prog.info? 38).map (fun i => (i.zero, i.size, i.bytes)) = some (some (.int .u64 0), 1, 8) := by kernel_rfl
/-- Rows of the call's own. -/
def OwnV (r : Int → Nat) (w : World) (B : Nat) (A : Option Addr) (c : Nat) (l : List Nt) : Prop := w.ownsRow B 38 1 (.slice A l.length c) l.length (vc r l)
theorem OwnV.own {r : Int → Nat} {w : World} {B : Nat} {A : Option Addr} {c : Nat} {l : List Nt} (h : OwnV r w B A c l) : w.ownsRow B 38 1 (.slice A l.length c) l.length (vc r l) := h
theorem OwnV.keep {r : Int → Nat} {w w' : World} {B : Nat} {A : Option Addr} {c : Nat} {l : List Nt} (h : OwnV r w B A c l) (hb : Below w.heap.size w w') : OwnV r w' B A c l := own_keep h hb

set_option maxRecDepth 20000 in
set_option maxHeartbeats 8000000 in
theorem values_any (r : Int → Nat) (hr : ∀ n, r n < 18446744073709551616) (K : FuncId) (C : Addr) (A : Option Addr) (cap : Nat) (l : List (Int × Int)) (W : World) (h : Sl W 2 A l.length cap (pcells l)) (hl : l.length ≤ 1000)
    (hcf : ∀ (args : Array Value) (w : World), (callFunc K args).run Tryd.prog w = .ok (.enter K args) w)
    (hrow : ∀ (n : Int) (w : World), 0 ≤ n → n < 16 → Below W.heap.size W w → Calls Tryd.prog K #[.int .i64 n, .pointer (some C)] w fun e w' => e = .returned (.int .u64 (r n : Nat)) ∧ Below w.heap.size w w') :
    Calls Tryd.prog 57 #[.slice A l.length cap, .func (.func K) #[] #[.pointer (some C)]] W fun e w' => e = .returned (.int .u64 (valL r l : Nat)) ∧ Below W.heap.size W w' := by
  have HCK := hid (ncheck_any A cap l W h hl)
  have HS := hid (fun w (hw : Below W.heap.size W w) => h.below hw)
  have HROW := hid hrow
  have HR := hid hr
  by_cases h0 : chkN l = 0
  · obtain ⟨t, hwf, hlt, hdp, hl31, hrun⟩ := chkN_zero h0
    have HVAL : Hid (valL r l = valS r t) := hid (by unfold valL; rw [if_pos h0, hrun])
    have HSOME : Hid (∀ k, ∃ ts, runN [] (l.take k) = some ts) := hid (fun k => by
      cases hk : runN [] (l.take k) with
      | none => rw [runN_bad hk] at hrun; exact absurd hrun (by simp)
      | some ts => exact ⟨ts, rfl⟩)
    have HRUN := hid hrun
    rw [h0] at HCK
    clear h hl hrow hr h0 hwf hlt hdp hrun
    go_enter Tryd.func57, Tryd.ntmps57
    go_wp2_with fail
    refine HCK.out.mono ?_
    rintro e w0 ⟨rfl, hb0⟩
    have HB0 := hid hb0
    clear hb0 HCK
    go_wp2_with fail
    go_loopw [5, 7, 8, 14] (fun s _ _ i wr => ∃ (k : Nat) (ts : List Nt) (B : Option Addr) (c : Nat), k ≤ l.length ∧ i = .int .i64 (k : Int) ∧ s = .slice B ts.length c ∧ Hid (runN [] (l.take k) = some ts ∧ OwnV r wr W.heap.size B c ts ∧ Below W.heap.size W wr)) (fun _ _ _ i _ => l.length - (intOf i).toNat)
    case atStart => exact ⟨0, [], none, 0, by omega, rfl, rfl, by simp [runN], World.ownsRow_nil _ _ _ _, HB0.out⟩
    case round =>
      obtain ⟨k, ts, B, c, hk, rfl, rfl, HX⟩ := hrel
      obtain ⟨hr1, ho1, hb1⟩ := HX.out
      have hlen : ts.length ≤ 31 := by have := runN_len hr1; rw [List.length_take] at this; omega
      by_cases hlt : k < l.length
      · have hlt2 : (k : Int) < (l.length : Int) := by omega
        obtain ⟨bb, off, rfl⟩ : ∃ b off, A = some ⟨b, off, none⟩ := by
          obtain ⟨b, off, ha, _⟩ := (HS.out _ hb1).2.2.2 (by rw [pcells_length]; omega)
          exact ⟨b, off, ha⟩
        obtain ⟨hc0, hc1⟩ := (HS.out _ hb1).pair k hlt
        obtain ⟨us, hus⟩ := HSOME.out (k + 1)
        have hjt : joinT ts l[k] = some us := by rw [← runN_take hlt hr1]; exact hus
        have HT := hid hus
        generalize l[k] = x at *
        obtain ⟨op, n⟩ := x
        simp only at hc0 hc1
        have HCA := hid (joinT_cases hjt)
        have HO := hid ho1
        have HB := hid hb1
        have HW1 := hid hb1.size
        clear hr1 ho1 hb1 HX hus hjt HSOME
        rcases HCA.out with ⟨rfl, rfl⟩ | ⟨rfl, hn0, hn1, rfl⟩ | ⟨rfl, vs, t1, rfl, rfl⟩ | ⟨rfl, vs, t1, t2, rfl, rfl⟩ | ⟨rfl, vs, t1, t2, rfl, rfl⟩
        · skip
          go_upto_region 7 with (fail)
          refine at_world (fun w => w.heap[wr.heap.size]? = some (.cells #[.int .i64 1, .int .i64 n] 128 (0, 0)) ∧ OwnV r w W.heap.size B c ts ∧ Below W.heap.size W w ∧ wr.heap.size < w.heap.size) ⟨heap_alloc_new _ _, HO.out.keep ((Below.refl _ _).alloc (Nat.le_refl _) _), HB.out.alloc HB.out.size _, by simp⟩ ?_
          rintro w1 ⟨k1, ho1, hb1, hz1⟩
          obtain ⟨p0, p1, _, _⟩ := two_cells k1
          have HO1 := hid ho1
          have HB1 := hid hb1
          have HZ1 := hid hz1
          have HBZ := hid (Nat.le_trans HW1.out (Nat.le_of_lt hz1))
          clear k1 ho1 hb1 hz1 HO HB HCA
          go_upto_region 10 with (fail)
          go_wp2_with (at_builtin; go_loud (refine wpList_append_1 (W := w1) rfl (.tmp 24) (.tmp 25) 126 rfl W.heap.size 38 Tryd.underlying126 info_u64 rfl (by omega) rfl HO1.out.own rfl rfl (by simp; rfl) (by unfold maxLen; omega) (by omega) HBZ.out (Below.refl _ _) ?_))
          intro v' w2 ho2 hb2 hz2
          obtain ⟨A2, c2, rfl, _⟩ := Sl.of_own ho2
          have HJ2 : Hid (OwnV r w2 W.heap.size A2 c2 (ts ++ [.yes])) := hid (by
            unfold OwnV
            rw [vc_append, List.length_append]
            exact ho2)
          have HB2 := hid (HB1.out.trans hb2)
          clear ho2 hb2 hz2 p0 p1
          go_wp2
          go_roundw
          case rel => exact ⟨k + 1, _, A2, c2, by omega, by go_num, by simp, HT.out, HJ2.out, HB2.out⟩
          case measure => simp [intOf]; omega
        · skip
          go_upto_region 7 with (fail)
          refine at_world (fun w => w.heap[wr.heap.size]? = some (.cells #[.int .i64 2, .int .i64 n] 128 (0, 0)) ∧ OwnV r w W.heap.size B c ts ∧ Below W.heap.size W w ∧ wr.heap.size < w.heap.size) ⟨heap_alloc_new _ _, HO.out.keep ((Below.refl _ _).alloc (Nat.le_refl _) _), HB.out.alloc HB.out.size _, by simp⟩ ?_
          rintro w1 ⟨k1, ho1, hb1, hz1⟩
          obtain ⟨p0, p1, _, _⟩ := two_cells k1
          have HO1 := hid ho1
          have HB1 := hid hb1
          have HZ1 := hid hz1
          have HBZ := hid (Nat.le_trans HW1.out (Nat.le_of_lt hz1))
          clear k1 ho1 hb1 hz1 HO HB HCA
          have HL := hid (HROW.out n w1 hn0 hn1 HB1.out)
          have hvn := HR.out n
          generalize hvx : r n = vn at *
          go_upto_region 12 with (fail)
          go_wp2_with fail
          refine HL.out.mono ?_
          rintro e w3 ⟨rfl, hb3⟩
          have HB3 := hid (HB1.out.trans (hb3.mono (Nat.le_trans HW1.out (Nat.le_of_lt HZ1.out))))
          have HO3 := hid (HO1.out.keep hb3)
          have HZ3 := hid (Nat.le_trans HBZ.out hb3.size)
          clear hb3 HL HO1
          go_wp2_with (at_builtin; go_loud (refine wpList_append_1 (W := w3) rfl (.tmp 29) (.tmp 34) 126 rfl W.heap.size 38 Tryd.underlying126 info_u64 rfl (by omega) rfl HO3.out.own rfl rfl (by simp; rfl) (by unfold maxLen; omega) (by omega) HZ3.out (Below.refl _ _) ?_))
          intro v' w2 ho2 hb2 hz2
          obtain ⟨A2, c2, rfl, _⟩ := Sl.of_own ho2
          have HJ2 : Hid (OwnV r w2 W.heap.size A2 c2 (ts ++ [.attr n])) := hid (by
            unfold OwnV
            rw [vc_append, List.length_append]
            show w2.ownsRow _ _ _ _ _ (vc r ts ++ [.int .u64 ((r n : Nat) : Int)])
            rw [hvx]
            exact ho2)
          have HB2 := hid (HB3.out.trans hb2)
          clear ho2 hb2 hz2 p0 p1
          go_wp2
          go_roundw
          case rel => exact ⟨k + 1, _, A2, c2, by omega, by go_num, by simp, HT.out, HJ2.out, HB2.out⟩
          case measure => simp [intOf]; omega
        · skip
          have HMM := hid (rfl : vs.length = vs.length)
          obtain ⟨m, hm⟩ : ∃ m, vs.length = m := ⟨_, rfl⟩
          have HM := hid hm
          have hlen2 : (vs ++ [t1] : List Nt).length = m + 1 := by rw [List.length_append, hm]; rfl
          have HO9 : Hid (wr.ownsRow W.heap.size 38 1 (.slice B (m + 1) c) (m + 1) (vc r vs ++ [.int .u64 ((valS r t1 : Nat) : Int)])) := hid (by
            have := HO.out.own
            rw [hlen2, vc_append] at this
            exact this)
          rw [hlen2] at hlen ⊢
          clear hlen2 hm HMM HO
          have HO := HO9
          clear HO9
          obtain ⟨g, rfl⟩ := own_at0 HO.out (by omega)
          have hmc : m + 1 ≤ c := by
            rcases HO.out.2 with ⟨h', _⟩ | ⟨g', cap', cur, h', _, _, hnc, _⟩
            · simp at h'
            · simp only [Value.slice.injEq] at h'; omega
          have hc9 : c ≤ 9223372036854775807 := by
            rcases HO.out.2 with ⟨h', _⟩ | ⟨g', cap', cur, h', _, _, hnc, hcm, _⟩
            · simp at h'
            · simp only [Value.slice.injEq] at h'; unfold maxLen at hcm; omega
          go_upto_region 7 with (fail)
          refine at_world (fun w => w.heap[wr.heap.size]? = some (.cells #[.int .i64 3, .int .i64 n] 128 (0, 0)) ∧ w.ownsRow W.heap.size 38 1 (.slice (some ⟨g, 0, none⟩) (m + 1) c) (m + 1) (vc r vs ++ [.int .u64 ((valS r t1 : Nat) : Int)]) ∧ Below W.heap.size W w ∧ wr.heap.size < w.heap.size) ⟨heap_alloc_new _ _, own_keep HO.out ((Below.refl _ _).alloc (Nat.le_refl _) _), HB.out.alloc HB.out.size _, by simp⟩ ?_
          rintro w1 ⟨k1, ho1, hb1, hz1⟩
          obtain ⟨p0, p1, _, _⟩ := two_cells k1
          have HO1 := hid ho1
          have HB1 := hid hb1
          have HZ1 := hid hz1
          have HBZ := hid (Nat.le_trans HW1.out (Nat.le_of_lt hz1))
          clear k1 ho1 hb1 hz1 HO HB HCA
          have HC := hid (sl_own HO1.out)
          have q0 : w1.cell? ⟨g, m, none⟩ = some (.int .u64 ((valS r t1 : Nat) : Int)) := by
            obtain ⟨b, off, ha, hc⟩ := HC.out.2.2.2 (by simp)
            simp only [Option.some.injEq, Addr.mk.injEq, and_true] at ha
            obtain ⟨rfl, rfl⟩ := ha
            have h9 := hc (m) (by simp [vc_len, HM.out])
            rw [Nat.zero_add] at h9
            show w1.cell? _ = _
            rw [h9, List.getElem?_append_right (by rw [vc_len, HM.out]; omega)]
            simp [vc_len, HM.out]
          have hv := valS_lt HR.out t1
          have HROWS : Hid (W.heap.size ≤ g ∧ Row w1 g 38 c (vc r vs ++ [.int .u64 ((valS r t1 : Nat) : Int)])) := hid (by
            obtain ⟨_, ⟨h8, _⟩ | ⟨g', cap', h8, h7, _, h6⟩⟩ := Row.of_own HO1.out
            · simp at h8
            · simp only [Value.slice.injEq, Option.some.injEq, Addr.mk.injEq, and_true, true_and] at h8
              obtain ⟨rfl, rfl⟩ := h8
              exact ⟨h7, h6.2⟩)
          have hfz : w1.frozen? ⟨g, m, none⟩ = false := by
            have := (HROWS.out.2.cell m (by simp [vc_len, HM.out])).2
            exact this
          have HE : Hid (bits .xor .u64 18446744073709551615 ((valS r t1 : Nat) : Int) = ((valS r (.not t1) : Nat) : Int)) := hid (u64_xor_nat 18446744073709551615 (valS r t1) (by decide) hv)
          have HE2 : Hid (bits .xor .u64 (if IntKind.u64.signed = true then -1 else IntKind.u64.max) ((valS r t1 : Nat) : Int) = ((valS r (.not t1) : Nat) : Int)) := hid (by
            have e : (if IntKind.u64.signed = true then (-1 : Int) else IntKind.u64.max) = 18446744073709551615 := by decide
            rw [e]
            exact HE.out)
          generalize hvt : valS r t1 = vt at *
          have HVT := hid hvt
          have ml : (m : Int) ≤ 31 := by omega
          have hw0 : IntKind.i64.wrap (m : Int) = (m : Int) := by simp [IntKind.wrap, IntKind.bits, IntKind.signed]; omega
          have hi0 : (m : Int) < (m : Int) + 1 := by omega
          clear HC hvt hlen hc9 HO1
          go_upto_region 14 with (fail)
          go_wp2_with fail
          go_roundw
          case rel =>
            refine ⟨k + 1, _, some ⟨g, 0, none⟩, c, by omega, by go_num, by rw [List.length_append, HM.out]; rfl, HT.out, ?_, ?_⟩
            · have h9 := (HROWS.out.2.set m (.int .u64 ((valS r (.not t1) : Nat) : Int))).own HROWS.out.1
              have e9 : (vc r vs ++ [Value.int .u64 (vt : Int)]).set m (Value.int .u64 ((valS r (.not t1) : Nat) : Int)) = vc r vs ++ [Value.int .u64 ((valS r (.not t1) : Nat) : Int)] := by
                rw [← HM.out, ← vc_len r vs]
                simp
              rw [e9] at h9
              have el : (vs ++ [Nt.not t1]).length = (vc r vs ++ [Value.int .u64 ((valS r (.not t1) : Nat) : Int)]).length := by simp [vc_len]
              unfold OwnV
              rw [el, vc_append]
              rw [HE2.out]
              exact h9
            · exact HB1.out.setCell (p := ⟨g, m, none⟩) HROWS.out.1 _
          case measure => simp [intOf]; omega
        · skip
          have HMM := hid (rfl : vs.length = vs.length)
          obtain ⟨m, hm⟩ : ∃ m, vs.length = m := ⟨_, rfl⟩
          have HM := hid hm
          have hlen2 : (vs ++ [t1, t2] : List Nt).length = m + 2 := by rw [List.length_append, hm]; rfl
          have HO9 : Hid (wr.ownsRow W.heap.size 38 1 (.slice B (m + 2) c) (m + 2) (vc r vs ++ [.int .u64 ((valS r t1 : Nat) : Int), .int .u64 ((valS r t2 : Nat) : Int)])) := hid (by
            have := HO.out.own
            rw [hlen2, vc_append] at this
            exact this)
          rw [hlen2] at hlen ⊢
          clear hlen2 hm HMM HO
          have HO := HO9
          clear HO9
          obtain ⟨g, rfl⟩ := own_at0 HO.out (by omega)
          have hmc : m + 2 ≤ c := by
            rcases HO.out.2 with ⟨h', _⟩ | ⟨g', cap', cur, h', _, _, hnc, _⟩
            · simp at h'
            · simp only [Value.slice.injEq] at h'; omega
          have hc9 : c ≤ 9223372036854775807 := by
            rcases HO.out.2 with ⟨h', _⟩ | ⟨g', cap', cur, h', _, _, hnc, hcm, _⟩
            · simp at h'
            · simp only [Value.slice.injEq] at h'; unfold maxLen at hcm; omega
          go_upto_region 7 with (fail)
          refine at_world (fun w => w.heap[wr.heap.size]? = some (.cells #[.int .i64 4, .int .i64 n] 128 (0, 0)) ∧ w.ownsRow W.heap.size 38 1 (.slice (some ⟨g, 0, none⟩) (m + 2) c) (m + 2) (vc r vs ++ [.int .u64 ((valS r t1 : Nat) : Int), .int .u64 ((valS r t2 : Nat) : Int)]) ∧ Below W.heap.size W w ∧ wr.heap.size < w.heap.size) ⟨heap_alloc_new _ _, own_keep HO.out ((Below.refl _ _).alloc (Nat.le_refl _) _), HB.out.alloc HB.out.size _, by simp⟩ ?_
          rintro w1 ⟨k1, ho1, hb1, hz1⟩
          obtain ⟨p0, p1, _, _⟩ := two_cells k1
          have HO1 := hid ho1
          have HB1 := hid hb1
          have HZ1 := hid hz1
          have HBZ := hid (Nat.le_trans HW1.out (Nat.le_of_lt hz1))
          clear k1 ho1 hb1 hz1 HO HB HCA
          have HTK := hid (own_take1 HO1.out m (by omega))
          rw [List.take_left' (by rw [vc_len]; exact HM.out)] at HTK
          have HC := hid (sl_own HO1.out)
          have q0 : w1.drew.cell? ⟨g, m, none⟩ = some (.int .u64 ((valS r t1 : Nat) : Int)) := by
            obtain ⟨b, off, ha, hc⟩ := HC.out.2.2.2 (by simp)
            simp only [Option.some.injEq, Addr.mk.injEq, and_true] at ha
            obtain ⟨rfl, rfl⟩ := ha
            have h9 := hc (m) (by simp [vc_len, HM.out])
            rw [Nat.zero_add] at h9
            show w1.cell? _ = _
            rw [h9, List.getElem?_append_right (by rw [vc_len, HM.out]; omega)]
            simp [vc_len, HM.out]
          have q1 : w1.drew.cell? ⟨g, m + 1, none⟩ = some (.int .u64 ((valS r t2 : Nat) : Int)) := by
            obtain ⟨b, off, ha, hc⟩ := HC.out.2.2.2 (by simp)
            simp only [Option.some.injEq, Addr.mk.injEq, and_true] at ha
            obtain ⟨rfl, rfl⟩ := ha
            have h9 := hc (m + 1) (by simp [vc_len, HM.out])
            rw [Nat.zero_add] at h9
            show w1.cell? _ = _
            rw [h9, List.getElem?_append_right (by rw [vc_len, HM.out]; omega)]
            simp [vc_len, HM.out]
          have hv1 := valS_lt HR.out t1
          have hv2 := valS_lt HR.out t2
          have HE : Hid (bits .and .u64 ((valS r t1 : Nat) : Int) ((valS r t2 : Nat) : Int) = ((valS r (.pair 4 t1 t2) : Nat) : Int)) := hid (u64_and_nat _ _ hv1 hv2)
          generalize valS r t1 = vt1 at *
          generalize valS r t2 = vt2 at *
          clear HC hv1 hv2 HO1
          have ml : (m : Int) ≤ 31 := by omega
          have mc : ((m : Int) + 2) ≤ (c : Int) := by omega
          have hw0 : IntKind.i64.wrap (m : Int) = (m : Int) := by simp [IntKind.wrap, IntKind.bits, IntKind.signed]; omega
          have hw1 : IntKind.i64.wrap ((m : Int) + 2 - 1) = (m : Int) + 1 := by simp [IntKind.wrap, IntKind.bits, IntKind.signed]; omega
          have ht1 : ((m : Int) + 1).toNat = m + 1 := by omega
          have h01 : (0 : Int) ≤ (m : Int) + 1 := by omega
          have hi0 : (m : Int) < (m : Int) + 2 := by omega
          have hi1 : (m : Int) + 1 < (m : Int) + 2 := by omega
          have hs3 : ∀ w : World, (Instr.slice 126 (.slice (some ⟨g, 0, none⟩) (m + 2) c) none (some (.int .i64 (m : Int))) none).run Tryd.prog w = .ok (.slice (some ⟨g, 0, none⟩) m c) w := run_to Tryd.underlying126 info_u64 (some ⟨g, 0, none⟩) (m + 2) c m (by omega)
          go_upto_region 16 with (fail)
          refine wp_region_held_drew (S := fun U => True ∧ Below W.heap.size w1 U) (by kernel_rfl) ⟨trivial, below_drew (Below.refl _ _)⟩ (fun hHeld => ?_)
          refine wpAnyH_take (i := 0) (v := ?_) rfl (by kernel_rfl) (by kernel_rfl) (by kernel_rfl) (fun _ _ _ h => h) (Or.inl ⟨by rfl, ?_⟩) (by assumption) ?_
          rotate_left
          focus
            intro U hU
            try dsimp only at hU
            go_simp
            try (with_reducible rfl)
          simp only [List.getElem_toArray, List.getElem_cons_succ, List.getElem_cons_zero, Act.put, List.setIfInBounds_toArray, List.set_cons_zero, List.set_cons_succ]
          refine wpAnyH_take (i := 1) (v := ?_) rfl (by kernel_rfl) (by kernel_rfl) (by kernel_rfl) (fun _ _ _ h => h) (Or.inl ⟨by rfl, ?_⟩) (by assumption) ?_
          rotate_left
          focus
            intro U hU
            try dsimp only at hU
            go_simp
            try (with_reducible rfl)
          simp only [List.getElem_toArray, List.getElem_cons_succ, List.getElem_cons_zero, Act.put, List.setIfInBounds_toArray, List.set_cons_zero, List.set_cons_succ]
          refine wpAnyH_take (i := 2) (v := ?_) rfl (by kernel_rfl) (by kernel_rfl) (by kernel_rfl) (fun _ _ _ h => h) (Or.inl ⟨by rfl, ?_⟩) (by assumption) ?_
          rotate_left
          focus
            intro U hU
            try dsimp only at hU
            go_simp
            try (with_reducible rfl)
          simp only [List.getElem_toArray, List.getElem_cons_succ, List.getElem_cons_zero, Act.put, List.setIfInBounds_toArray, List.set_cons_zero, List.set_cons_succ]
          refine wpAnyH_take (i := 3) (v := ?_) rfl (by kernel_rfl) (by kernel_rfl) (by kernel_rfl) (fun _ _ _ h => h) (Or.inl ⟨by rfl, ?_⟩) (by assumption) ?_
          rotate_left
          focus
            intro U hU
            try dsimp only at hU
            go_simp
            try (with_reducible rfl)
          simp only [List.getElem_toArray, List.getElem_cons_succ, List.getElem_cons_zero, Act.put, List.setIfInBounds_toArray, List.set_cons_zero, List.set_cons_succ]
          refine wpAnyH_take (i := 4) (v := ?_) rfl (by kernel_rfl) (by kernel_rfl) (by kernel_rfl) (fun _ _ _ h => h) (Or.inl ⟨by rfl, ?_⟩) (by assumption) ?_
          rotate_left
          focus
            intro U hU
            try dsimp only at hU
            go_simp
            try (with_reducible rfl)
          simp only [List.getElem_toArray, List.getElem_cons_succ, List.getElem_cons_zero, Act.put, List.setIfInBounds_toArray, List.set_cons_zero, List.set_cons_succ]
          refine wpAnyH_take (i := 5) (v := ?_) rfl (by kernel_rfl) (by kernel_rfl) (by kernel_rfl) (fun _ _ _ h => h) (Or.inl ⟨by rfl, ?_⟩) (by assumption) ?_
          rotate_left
          focus
            intro U hU
            try dsimp only at hU
            go_simp
            try (with_reducible rfl)
          simp only [List.getElem_toArray, List.getElem_cons_succ, List.getElem_cons_zero, Act.put, List.setIfInBounds_toArray, List.set_cons_zero, List.set_cons_succ]
          refine wpAnyH_take (i := 6) (v := ?_) rfl (by kernel_rfl) (by kernel_rfl) (by kernel_rfl) (fun _ _ _ h => h) (Or.inl ⟨by rfl, ?_⟩) (by assumption) ?_
          rotate_left
          focus
            intro U hU
            try dsimp only at hU
            go_simp
            try (with_reducible rfl)
          simp only [List.getElem_toArray, List.getElem_cons_succ, List.getElem_cons_zero, Act.put, List.setIfInBounds_toArray, List.set_cons_zero, List.set_cons_succ]
          refine wpAnyH_take (i := 7) (v := ?_) rfl (by kernel_rfl) (by kernel_rfl) (by kernel_rfl) (fun _ _ _ h => h) (Or.inl ⟨by rfl, ?_⟩) (by assumption) ?_
          rotate_left
          focus
            intro U hU
            try dsimp only at hU
            go_simp
            try (with_reducible rfl)
          simp only [List.getElem_toArray, List.getElem_cons_succ, List.getElem_cons_zero, Act.put, List.setIfInBounds_toArray, List.set_cons_zero, List.set_cons_succ]
          refine wpAnyH_take (i := 9) (v := ?_) rfl (by kernel_rfl) (by kernel_rfl) (by kernel_rfl) (fun _ _ _ h => h) (Or.inl ⟨by rfl, ?_⟩) (by assumption) ?_
          rotate_left
          focus
            intro U hU
            try dsimp only at hU
            go_simp
            try (with_reducible rfl)
          simp only [List.getElem_toArray, List.getElem_cons_succ, List.getElem_cons_zero, Act.put, List.setIfInBounds_toArray, List.set_cons_zero, List.set_cons_succ]
          refine wpAnyH_take (i := 10) (v := ?_) rfl (by kernel_rfl) (by kernel_rfl) (by kernel_rfl) (fun _ _ _ h => h) (Or.inl ⟨by rfl, ?_⟩) (by assumption) ?_
          rotate_left
          focus
            intro U hU
            try dsimp only at hU
            go_simp
            try (with_reducible rfl)
          simp only [List.getElem_toArray, List.getElem_cons_succ, List.getElem_cons_zero, Act.put, List.setIfInBounds_toArray, List.set_cons_zero, List.set_cons_succ]
          refine wpAnyH_take (i := 11) (v := ?_) rfl (by kernel_rfl) (by kernel_rfl) (by kernel_rfl) (fun _ _ _ h => h) (Or.inl ⟨by rfl, ?_⟩) (by assumption) ?_
          rotate_left
          focus
            intro U hU
            try dsimp only at hU
            go_simp
            try (with_reducible rfl)
          simp only [List.getElem_toArray, List.getElem_cons_succ, List.getElem_cons_zero, Act.put, List.setIfInBounds_toArray, List.set_cons_zero, List.set_cons_succ]
          refine wpAnyH_take (i := 12) (v := ?_) rfl (by kernel_rfl) (by kernel_rfl) (by kernel_rfl) (fun _ _ _ h => h) (Or.inl ⟨by rfl, ?_⟩) (by assumption) ?_
          rotate_left
          focus
            intro U hU
            try dsimp only at hU
            go_simp
            try (with_reducible rfl)
          simp only [List.getElem_toArray, List.getElem_cons_succ, List.getElem_cons_zero, Act.put, List.setIfInBounds_toArray, List.set_cons_zero, List.set_cons_succ]
          refine wpAnyH_ready (rs := [8, 13]) (by kernel_rfl) (by simp) ?_
          refine (AllReadyH.cons rfl (fun K hK => ?_) (AllReadyH.cons rfl (fun K hK => ?_) AllReadyH.nil))
          · skip
            simp only [List.getElem_toArray, List.getElem_cons_succ, List.getElem_cons_zero]
            go_simp
            refine hK.out _ _ ?_ (fun hHeld2 => ?_)
            focus
              exact hHeld
            clear hHeld
            have hHeld := hHeld2
            clear hHeld2 hK K
            try simp only [List.getElem_toArray, List.getElem_cons_succ, List.getElem_cons_zero, Act.put, List.setIfInBounds_toArray, List.set_cons_zero, List.set_cons_succ]
            refine wpAnyH_ready (rs := [13]) (by kernel_rfl) (by simp) ?_
            refine (AllReadyH.cons rfl (fun K hK => ?_) AllReadyH.nil)
            simp only [List.getElem_toArray, List.getElem_cons_succ, List.getElem_cons_zero]
            go_simp
            refine hK.out _ _ ?_ (fun hHeld2 => ?_)
            focus
              exact hHeld
            clear hHeld
            have hHeld := hHeld2
            clear hHeld2 hK K
            try simp only [List.getElem_toArray, List.getElem_cons_succ, List.getElem_cons_zero, Act.put, List.setIfInBounds_toArray, List.set_cons_zero, List.set_cons_succ]
            refine wpAnyH_take (i := 14) (v := ?_) rfl (by kernel_rfl) (by kernel_rfl) (by kernel_rfl) (fun _ _ _ h => h) (Or.inl ⟨by rfl, ?_⟩) (by assumption) ?_
            rotate_left
            focus
              intro U hU
              try dsimp only at hU
              go_simp
              try (with_reducible rfl)
            simp only [List.getElem_toArray, List.getElem_cons_succ, List.getElem_cons_zero, Act.put, List.setIfInBounds_toArray, List.set_cons_zero, List.set_cons_succ]
            refine wpAnyH_ready (rs := [15]) (by kernel_rfl) (by simp) ?_
            refine AllReadyH.cons rfl (fun K hK => ?_) AllReadyH.nil
            simp only [List.getElem_toArray, List.getElem_cons_succ, List.getElem_cons_zero]
            go_simp
            refine hK.out _ _ ?_ (fun hHeld2 => ?_)
            focus
              exact ⟨True.intro, (And.right hHeld).alloc HBZ.out _⟩
            clear hHeld
            have hHeld := hHeld2
            clear hHeld2 hK K
            try simp only [List.getElem_toArray, List.getElem_cons_succ, List.getElem_cons_zero, Act.put, List.setIfInBounds_toArray, List.set_cons_zero, List.set_cons_succ]
            have HN : Hid (Sl (w1.drew.alloc (.cells #[.int .u64 (bits .and .u64 (vt1 : Int) (vt2 : Int))] 38)) 1 (some ⟨w1.heap.size, 0, none⟩) 1 1 [.int .u64 (bits .and .u64 (vt1 : Int) (vt2 : Int))]) := hid (sl_new1 _ rfl)
            have HT2 : Hid ((w1.drew.alloc (.cells #[.int .u64 (bits .and .u64 (vt1 : Int) (vt2 : Int))] 38)).ownsRow W.heap.size 38 1 (.slice (some ⟨g, 0, none⟩) m c) m (vc r vs)) := hid (own_keep HTK.out (below_drew (Below.refl _ _) |>.alloc (Nat.le_refl _) _))
            have HBB : Hid (W.heap.size ≤ (w1.drew.alloc (.cells #[.int .u64 (bits .and .u64 (vt1 : Int) (vt2 : Int))] 38)).heap.size) := hid (Nat.le_trans HBZ.out (by simp))
            refine wpAnyH_ready (rs := [16]) (by kernel_rfl) (by simp) ?_
            refine AllReadyH.cons rfl (fun K hK => ?_) AllReadyH.nil
            refine step_append_sl rfl (.tmp 53) (.tmp 65) 126 rfl W.heap.size 38 Tryd.underlying126 info_u64 rfl (by omega) rfl HT2.out rfl HN.out (by simp; rfl) (by unfold maxLen; omega) (by omega) HBB.out ?_
            intro v5 w5 ho5 hb5 hsz5 hk5
            simp only [List.getElem_toArray, List.getElem_cons_succ, List.getElem_cons_zero]
            refine hK.out _ _ ?_ (fun hHeld2 => ?_)
            focus
              exact ⟨True.intro, (And.right hHeld).trans hb5⟩
            clear hHeld
            have hHeld := hHeld2
            clear hHeld2 hK K
            try simp only [List.getElem_toArray, List.getElem_cons_succ, List.getElem_cons_zero, Act.put, List.setIfInBounds_toArray, List.set_cons_zero, List.set_cons_succ]
            refine wpAnyH_take (i := 17) (v := ?_) rfl (by kernel_rfl) (by kernel_rfl) (by kernel_rfl) (fun _ _ _ h => h) (Or.inl ⟨by rfl, ?_⟩) (by assumption) ?_
            rotate_left
            focus
              intro U hU
              try dsimp only at hU
              go_simp
              try (with_reducible rfl)
            simp only [List.getElem_toArray, List.getElem_cons_succ, List.getElem_cons_zero, Act.put, List.setIfInBounds_toArray, List.set_cons_zero, List.set_cons_succ]
            obtain ⟨A2, c2, rfl, _⟩ := Sl.of_own ho5
            have HB2 := hid (HB1.out.trans (And.right hHeld))
            have HJ2 : Hid (OwnV r w5 W.heap.size A2 c2 (vs ++ [.pair 4 t1 t2])) := hid (by
              unfold OwnV
              rw [vc_append, List.length_append, HM.out]
              show w5.ownsRow _ _ 1 _ _ (vc r vs ++ [.int .u64 ((valS r (.pair 4 t1 t2) : Nat) : Int)])
              rw [← HE.out]
              exact ho5)
            clear ho5 hb5 hsz5 hk5
            refine wpAnyH_done (by kernel_rfl) ?_ _
            clear hHeld
            go_wp2_with fail
            go_roundw
            case rel => exact ⟨k + 1, _, A2, c2, by omega, by go_num, by rw [List.length_append, HM.out]; rfl, HT.out, HJ2.out, HB2.out⟩
            case measure => simp [intOf]; omega
          · skip
            simp only [List.getElem_toArray, List.getElem_cons_succ, List.getElem_cons_zero]
            go_simp
            refine hK.out _ _ ?_ (fun hHeld2 => ?_)
            focus
              exact hHeld
            clear hHeld
            have hHeld := hHeld2
            clear hHeld2 hK K
            try simp only [List.getElem_toArray, List.getElem_cons_succ, List.getElem_cons_zero, Act.put, List.setIfInBounds_toArray, List.set_cons_zero, List.set_cons_succ]
            refine wpAnyH_ready (rs := [8]) (by kernel_rfl) (by simp) ?_
            refine (AllReadyH.cons rfl (fun K hK => ?_) AllReadyH.nil)
            simp only [List.getElem_toArray, List.getElem_cons_succ, List.getElem_cons_zero]
            go_simp
            refine hK.out _ _ ?_ (fun hHeld2 => ?_)
            focus
              exact hHeld
            clear hHeld
            have hHeld := hHeld2
            clear hHeld2 hK K
            try simp only [List.getElem_toArray, List.getElem_cons_succ, List.getElem_cons_zero, Act.put, List.setIfInBounds_toArray, List.set_cons_zero, List.set_cons_succ]
            refine wpAnyH_take (i := 14) (v := ?_) rfl (by kernel_rfl) (by kernel_rfl) (by kernel_rfl) (fun _ _ _ h => h) (Or.inl ⟨by rfl, ?_⟩) (by assumption) ?_
            rotate_left
            focus
              intro U hU
              try dsimp only at hU
              go_simp
              try (with_reducible rfl)
            simp only [List.getElem_toArray, List.getElem_cons_succ, List.getElem_cons_zero, Act.put, List.setIfInBounds_toArray, List.set_cons_zero, List.set_cons_succ]
            refine wpAnyH_ready (rs := [15]) (by kernel_rfl) (by simp) ?_
            refine AllReadyH.cons rfl (fun K hK => ?_) AllReadyH.nil
            simp only [List.getElem_toArray, List.getElem_cons_succ, List.getElem_cons_zero]
            go_simp
            refine hK.out _ _ ?_ (fun hHeld2 => ?_)
            focus
              exact ⟨True.intro, (And.right hHeld).alloc HBZ.out _⟩
            clear hHeld
            have hHeld := hHeld2
            clear hHeld2 hK K
            try simp only [List.getElem_toArray, List.getElem_cons_succ, List.getElem_cons_zero, Act.put, List.setIfInBounds_toArray, List.set_cons_zero, List.set_cons_succ]
            have HN : Hid (Sl (w1.drew.alloc (.cells #[.int .u64 (bits .and .u64 (vt1 : Int) (vt2 : Int))] 38)) 1 (some ⟨w1.heap.size, 0, none⟩) 1 1 [.int .u64 (bits .and .u64 (vt1 : Int) (vt2 : Int))]) := hid (sl_new1 _ rfl)
            have HT2 : Hid ((w1.drew.alloc (.cells #[.int .u64 (bits .and .u64 (vt1 : Int) (vt2 : Int))] 38)).ownsRow W.heap.size 38 1 (.slice (some ⟨g, 0, none⟩) m c) m (vc r vs)) := hid (own_keep HTK.out (below_drew (Below.refl _ _) |>.alloc (Nat.le_refl _) _))
            have HBB : Hid (W.heap.size ≤ (w1.drew.alloc (.cells #[.int .u64 (bits .and .u64 (vt1 : Int) (vt2 : Int))] 38)).heap.size) := hid (Nat.le_trans HBZ.out (by simp))
            refine wpAnyH_ready (rs := [16]) (by kernel_rfl) (by simp) ?_
            refine AllReadyH.cons rfl (fun K hK => ?_) AllReadyH.nil
            refine step_append_sl rfl (.tmp 53) (.tmp 65) 126 rfl W.heap.size 38 Tryd.underlying126 info_u64 rfl (by omega) rfl HT2.out rfl HN.out (by simp; rfl) (by unfold maxLen; omega) (by omega) HBB.out ?_
            intro v5 w5 ho5 hb5 hsz5 hk5
            simp only [List.getElem_toArray, List.getElem_cons_succ, List.getElem_cons_zero]
            refine hK.out _ _ ?_ (fun hHeld2 => ?_)
            focus
              exact ⟨True.intro, (And.right hHeld).trans hb5⟩
            clear hHeld
            have hHeld := hHeld2
            clear hHeld2 hK K
            try simp only [List.getElem_toArray, List.getElem_cons_succ, List.getElem_cons_zero, Act.put, List.setIfInBounds_toArray, List.set_cons_zero, List.set_cons_succ]
            refine wpAnyH_take (i := 17) (v := ?_) rfl (by kernel_rfl) (by kernel_rfl) (by kernel_rfl) (fun _ _ _ h => h) (Or.inl ⟨by rfl, ?_⟩) (by assumption) ?_
            rotate_left
            focus
              intro U hU
              try dsimp only at hU
              go_simp
              try (with_reducible rfl)
            simp only [List.getElem_toArray, List.getElem_cons_succ, List.getElem_cons_zero, Act.put, List.setIfInBounds_toArray, List.set_cons_zero, List.set_cons_succ]
            obtain ⟨A2, c2, rfl, _⟩ := Sl.of_own ho5
            have HB2 := hid (HB1.out.trans (And.right hHeld))
            have HJ2 : Hid (OwnV r w5 W.heap.size A2 c2 (vs ++ [.pair 4 t1 t2])) := hid (by
              unfold OwnV
              rw [vc_append, List.length_append, HM.out]
              show w5.ownsRow _ _ 1 _ _ (vc r vs ++ [.int .u64 ((valS r (.pair 4 t1 t2) : Nat) : Int)])
              rw [← HE.out]
              exact ho5)
            clear ho5 hb5 hsz5 hk5
            refine wpAnyH_done (by kernel_rfl) ?_ _
            clear hHeld
            go_wp2_with fail
            go_roundw
            case rel => exact ⟨k + 1, _, A2, c2, by omega, by go_num, by rw [List.length_append, HM.out]; rfl, HT.out, HJ2.out, HB2.out⟩
            case measure => simp [intOf]; omega
        · skip
          have HMM := hid (rfl : vs.length = vs.length)
          obtain ⟨m, hm⟩ : ∃ m, vs.length = m := ⟨_, rfl⟩
          have HM := hid hm
          have hlen2 : (vs ++ [t1, t2] : List Nt).length = m + 2 := by rw [List.length_append, hm]; rfl
          have HO9 : Hid (wr.ownsRow W.heap.size 38 1 (.slice B (m + 2) c) (m + 2) (vc r vs ++ [.int .u64 ((valS r t1 : Nat) : Int), .int .u64 ((valS r t2 : Nat) : Int)])) := hid (by
            have := HO.out.own
            rw [hlen2, vc_append] at this
            exact this)
          rw [hlen2] at hlen ⊢
          clear hlen2 hm HMM HO
          have HO := HO9
          clear HO9
          obtain ⟨g, rfl⟩ := own_at0 HO.out (by omega)
          have hmc : m + 2 ≤ c := by
            rcases HO.out.2 with ⟨h', _⟩ | ⟨g', cap', cur, h', _, _, hnc, _⟩
            · simp at h'
            · simp only [Value.slice.injEq] at h'; omega
          have hc9 : c ≤ 9223372036854775807 := by
            rcases HO.out.2 with ⟨h', _⟩ | ⟨g', cap', cur, h', _, _, hnc, hcm, _⟩
            · simp at h'
            · simp only [Value.slice.injEq] at h'; unfold maxLen at hcm; omega
          go_upto_region 7 with (fail)
          refine at_world (fun w => w.heap[wr.heap.size]? = some (.cells #[.int .i64 5, .int .i64 n] 128 (0, 0)) ∧ w.ownsRow W.heap.size 38 1 (.slice (some ⟨g, 0, none⟩) (m + 2) c) (m + 2) (vc r vs ++ [.int .u64 ((valS r t1 : Nat) : Int), .int .u64 ((valS r t2 : Nat) : Int)]) ∧ Below W.heap.size W w ∧ wr.heap.size < w.heap.size) ⟨heap_alloc_new _ _, own_keep HO.out ((Below.refl _ _).alloc (Nat.le_refl _) _), HB.out.alloc HB.out.size _, by simp⟩ ?_
          rintro w1 ⟨k1, ho1, hb1, hz1⟩
          obtain ⟨p0, p1, _, _⟩ := two_cells k1
          have HO1 := hid ho1
          have HB1 := hid hb1
          have HZ1 := hid hz1
          have HBZ := hid (Nat.le_trans HW1.out (Nat.le_of_lt hz1))
          clear k1 ho1 hb1 hz1 HO HB HCA
          have HTK := hid (own_take1 HO1.out m (by omega))
          rw [List.take_left' (by rw [vc_len]; exact HM.out)] at HTK
          have HC := hid (sl_own HO1.out)
          have q0 : w1.drew.cell? ⟨g, m, none⟩ = some (.int .u64 ((valS r t1 : Nat) : Int)) := by
            obtain ⟨b, off, ha, hc⟩ := HC.out.2.2.2 (by simp)
            simp only [Option.some.injEq, Addr.mk.injEq, and_true] at ha
            obtain ⟨rfl, rfl⟩ := ha
            have h9 := hc (m) (by simp [vc_len, HM.out])
            rw [Nat.zero_add] at h9
            show w1.cell? _ = _
            rw [h9, List.getElem?_append_right (by rw [vc_len, HM.out]; omega)]
            simp [vc_len, HM.out]
          have q1 : w1.drew.cell? ⟨g, m + 1, none⟩ = some (.int .u64 ((valS r t2 : Nat) : Int)) := by
            obtain ⟨b, off, ha, hc⟩ := HC.out.2.2.2 (by simp)
            simp only [Option.some.injEq, Addr.mk.injEq, and_true] at ha
            obtain ⟨rfl, rfl⟩ := ha
            have h9 := hc (m + 1) (by simp [vc_len, HM.out])
            rw [Nat.zero_add] at h9
            show w1.cell? _ = _
            rw [h9, List.getElem?_append_right (by rw [vc_len, HM.out]; omega)]
            simp [vc_len, HM.out]
          have hv1 := valS_lt HR.out t1
          have hv2 := valS_lt HR.out t2
          have HE : Hid (bits .or .u64 ((valS r t1 : Nat) : Int) ((valS r t2 : Nat) : Int) = ((valS r (.pair 5 t1 t2) : Nat) : Int)) := hid (u64_or_nat _ _ hv1 hv2)
          generalize valS r t1 = vt1 at *
          generalize valS r t2 = vt2 at *
          clear HC hv1 hv2 HO1
          have ml : (m : Int) ≤ 31 := by omega
          have mc : ((m : Int) + 2) ≤ (c : Int) := by omega
          have hw0 : IntKind.i64.wrap (m : Int) = (m : Int) := by simp [IntKind.wrap, IntKind.bits, IntKind.signed]; omega
          have hw1 : IntKind.i64.wrap ((m : Int) + 2 - 1) = (m : Int) + 1 := by simp [IntKind.wrap, IntKind.bits, IntKind.signed]; omega
          have ht1 : ((m : Int) + 1).toNat = m + 1 := by omega
          have h01 : (0 : Int) ≤ (m : Int) + 1 := by omega
          have hi0 : (m : Int) < (m : Int) + 2 := by omega
          have hi1 : (m : Int) + 1 < (m : Int) + 2 := by omega
          have hs3 : ∀ w : World, (Instr.slice 126 (.slice (some ⟨g, 0, none⟩) (m + 2) c) none (some (.int .i64 (m : Int))) none).run Tryd.prog w = .ok (.slice (some ⟨g, 0, none⟩) m c) w := run_to Tryd.underlying126 info_u64 (some ⟨g, 0, none⟩) (m + 2) c m (by omega)
          go_upto_region 18 with (fail)
          refine wp_region_held_drew (S := fun U => True ∧ Below W.heap.size w1 U) (by kernel_rfl) ⟨trivial, below_drew (Below.refl _ _)⟩ (fun hHeld => ?_)
          refine wpAnyH_take (i := 0) (v := ?_) rfl (by kernel_rfl) (by kernel_rfl) (by kernel_rfl) (fun _ _ _ h => h) (Or.inl ⟨by rfl, ?_⟩) (by assumption) ?_
          rotate_left
          focus
            intro U hU
            try dsimp only at hU
            go_simp
            try (with_reducible rfl)
          simp only [List.getElem_toArray, List.getElem_cons_succ, List.getElem_cons_zero, Act.put, List.setIfInBounds_toArray, List.set_cons_zero, List.set_cons_succ]
          refine wpAnyH_take (i := 1) (v := ?_) rfl (by kernel_rfl) (by kernel_rfl) (by kernel_rfl) (fun _ _ _ h => h) (Or.inl ⟨by rfl, ?_⟩) (by assumption) ?_
          rotate_left
          focus
            intro U hU
            try dsimp only at hU
            go_simp
            try (with_reducible rfl)
          simp only [List.getElem_toArray, List.getElem_cons_succ, List.getElem_cons_zero, Act.put, List.setIfInBounds_toArray, List.set_cons_zero, List.set_cons_succ]
          refine wpAnyH_take (i := 2) (v := ?_) rfl (by kernel_rfl) (by kernel_rfl) (by kernel_rfl) (fun _ _ _ h => h) (Or.inl ⟨by rfl, ?_⟩) (by assumption) ?_
          rotate_left
          focus
            intro U hU
            try dsimp only at hU
            go_simp
            try (with_reducible rfl)
          simp only [List.getElem_toArray, List.getElem_cons_succ, List.getElem_cons_zero, Act.put, List.setIfInBounds_toArray, List.set_cons_zero, List.set_cons_succ]
          refine wpAnyH_take (i := 3) (v := ?_) rfl (by kernel_rfl) (by kernel_rfl) (by kernel_rfl) (fun _ _ _ h => h) (Or.inl ⟨by rfl, ?_⟩) (by assumption) ?_
          rotate_left
          focus
            intro U hU
            try dsimp only at hU
            go_simp
            try (with_reducible rfl)
          simp only [List.getElem_toArray, List.getElem_cons_succ, List.getElem_cons_zero, Act.put, List.setIfInBounds_toArray, List.set_cons_zero, List.set_cons_succ]
          refine wpAnyH_take (i := 4) (v := ?_) rfl (by kernel_rfl) (by kernel_rfl) (by kernel_rfl) (fun _ _ _ h => h) (Or.inl ⟨by rfl, ?_⟩) (by assumption) ?_
          rotate_left
          focus
            intro U hU
            try dsimp only at hU
            go_simp
            try (with_reducible rfl)
          simp only [List.getElem_toArray, List.getElem_cons_succ, List.getElem_cons_zero, Act.put, List.setIfInBounds_toArray, List.set_cons_zero, List.set_cons_succ]
          refine wpAnyH_take (i := 5) (v := ?_) rfl (by kernel_rfl) (by kernel_rfl) (by kernel_rfl) (fun _ _ _ h => h) (Or.inl ⟨by rfl, ?_⟩) (by assumption) ?_
          rotate_left
          focus
            intro U hU
            try dsimp only at hU
            go_simp
            try (with_reducible rfl)
          simp only [List.getElem_toArray, List.getElem_cons_succ, List.getElem_cons_zero, Act.put, List.setIfInBounds_toArray, List.set_cons_zero, List.set_cons_succ]
          refine wpAnyH_take (i := 6) (v := ?_) rfl (by kernel_rfl) (by kernel_rfl) (by kernel_rfl) (fun _ _ _ h => h) (Or.inl ⟨by rfl, ?_⟩) (by assumption) ?_
          rotate_left
          focus
            intro U hU
            try dsimp only at hU
            go_simp
            try (with_reducible rfl)
          simp only [List.getElem_toArray, List.getElem_cons_succ, List.getElem_cons_zero, Act.put, List.setIfInBounds_toArray, List.set_cons_zero, List.set_cons_succ]
          refine wpAnyH_take (i := 7) (v := ?_) rfl (by kernel_rfl) (by kernel_rfl) (by kernel_rfl) (fun _ _ _ h => h) (Or.inl ⟨by rfl, ?_⟩) (by assumption) ?_
          rotate_left
          focus
            intro U hU
            try dsimp only at hU
            go_simp
            try (with_reducible rfl)
          simp only [List.getElem_toArray, List.getElem_cons_succ, List.getElem_cons_zero, Act.put, List.setIfInBounds_toArray, List.set_cons_zero, List.set_cons_succ]
          refine wpAnyH_take (i := 9) (v := ?_) rfl (by kernel_rfl) (by kernel_rfl) (by kernel_rfl) (fun _ _ _ h => h) (Or.inl ⟨by rfl, ?_⟩) (by assumption) ?_
          rotate_left
          focus
            intro U hU
            try dsimp only at hU
            go_simp
            try (with_reducible rfl)
          simp only [List.getElem_toArray, List.getElem_cons_succ, List.getElem_cons_zero, Act.put, List.setIfInBounds_toArray, List.set_cons_zero, List.set_cons_succ]
          refine wpAnyH_take (i := 10) (v := ?_) rfl (by kernel_rfl) (by kernel_rfl) (by kernel_rfl) (fun _ _ _ h => h) (Or.inl ⟨by rfl, ?_⟩) (by assumption) ?_
          rotate_left
          focus
            intro U hU
            try dsimp only at hU
            go_simp
            try (with_reducible rfl)
          simp only [List.getElem_toArray, List.getElem_cons_succ, List.getElem_cons_zero, Act.put, List.setIfInBounds_toArray, List.set_cons_zero, List.set_cons_succ]
          refine wpAnyH_take (i := 11) (v := ?_) rfl (by kernel_rfl) (by kernel_rfl) (by kernel_rfl) (fun _ _ _ h => h) (Or.inl ⟨by rfl, ?_⟩) (by assumption) ?_
          rotate_left
          focus
            intro U hU
            try dsimp only at hU
            go_simp
            try (with_reducible rfl)
          simp only [List.getElem_toArray, List.getElem_cons_succ, List.getElem_cons_zero, Act.put, List.setIfInBounds_toArray, List.set_cons_zero, List.set_cons_succ]
          refine wpAnyH_take (i := 12) (v := ?_) rfl (by kernel_rfl) (by kernel_rfl) (by kernel_rfl) (fun _ _ _ h => h) (Or.inl ⟨by rfl, ?_⟩) (by assumption) ?_
          rotate_left
          focus
            intro U hU
            try dsimp only at hU
            go_simp
            try (with_reducible rfl)
          simp only [List.getElem_toArray, List.getElem_cons_succ, List.getElem_cons_zero, Act.put, List.setIfInBounds_toArray, List.set_cons_zero, List.set_cons_succ]
          refine wpAnyH_ready (rs := [8, 13]) (by kernel_rfl) (by simp) ?_
          refine (AllReadyH.cons rfl (fun K hK => ?_) (AllReadyH.cons rfl (fun K hK => ?_) AllReadyH.nil))
          · skip
            simp only [List.getElem_toArray, List.getElem_cons_succ, List.getElem_cons_zero]
            go_simp
            refine hK.out _ _ ?_ (fun hHeld2 => ?_)
            focus
              exact hHeld
            clear hHeld
            have hHeld := hHeld2
            clear hHeld2 hK K
            try simp only [List.getElem_toArray, List.getElem_cons_succ, List.getElem_cons_zero, Act.put, List.setIfInBounds_toArray, List.set_cons_zero, List.set_cons_succ]
            refine wpAnyH_ready (rs := [13]) (by kernel_rfl) (by simp) ?_
            refine (AllReadyH.cons rfl (fun K hK => ?_) AllReadyH.nil)
            simp only [List.getElem_toArray, List.getElem_cons_succ, List.getElem_cons_zero]
            go_simp
            refine hK.out _ _ ?_ (fun hHeld2 => ?_)
            focus
              exact hHeld
            clear hHeld
            have hHeld := hHeld2
            clear hHeld2 hK K
            try simp only [List.getElem_toArray, List.getElem_cons_succ, List.getElem_cons_zero, Act.put, List.setIfInBounds_toArray, List.set_cons_zero, List.set_cons_succ]
            refine wpAnyH_take (i := 14) (v := ?_) rfl (by kernel_rfl) (by kernel_rfl) (by kernel_rfl) (fun _ _ _ h => h) (Or.inl ⟨by rfl, ?_⟩) (by assumption) ?_
            rotate_left
            focus
              intro U hU
              try dsimp only at hU
              go_simp
              try (with_reducible rfl)
            simp only [List.getElem_toArray, List.getElem_cons_succ, List.getElem_cons_zero, Act.put, List.setIfInBounds_toArray, List.set_cons_zero, List.set_cons_succ]
            refine wpAnyH_ready (rs := [15]) (by kernel_rfl) (by simp) ?_
            refine AllReadyH.cons rfl (fun K hK => ?_) AllReadyH.nil
            simp only [List.getElem_toArray, List.getElem_cons_succ, List.getElem_cons_zero]
            go_simp
            refine hK.out _ _ ?_ (fun hHeld2 => ?_)
            focus
              exact ⟨True.intro, (And.right hHeld).alloc HBZ.out _⟩
            clear hHeld
            have hHeld := hHeld2
            clear hHeld2 hK K
            try simp only [List.getElem_toArray, List.getElem_cons_succ, List.getElem_cons_zero, Act.put, List.setIfInBounds_toArray, List.set_cons_zero, List.set_cons_succ]
            have HN : Hid (Sl (w1.drew.alloc (.cells #[.int .u64 (bits .or .u64 (vt1 : Int) (vt2 : Int))] 38)) 1 (some ⟨w1.heap.size, 0, none⟩) 1 1 [.int .u64 (bits .or .u64 (vt1 : Int) (vt2 : Int))]) := hid (sl_new1 _ rfl)
            have HT2 : Hid ((w1.drew.alloc (.cells #[.int .u64 (bits .or .u64 (vt1 : Int) (vt2 : Int))] 38)).ownsRow W.heap.size 38 1 (.slice (some ⟨g, 0, none⟩) m c) m (vc r vs)) := hid (own_keep HTK.out (below_drew (Below.refl _ _) |>.alloc (Nat.le_refl _) _))
            have HBB : Hid (W.heap.size ≤ (w1.drew.alloc (.cells #[.int .u64 (bits .or .u64 (vt1 : Int) (vt2 : Int))] 38)).heap.size) := hid (Nat.le_trans HBZ.out (by simp))
            refine wpAnyH_ready (rs := [16]) (by kernel_rfl) (by simp) ?_
            refine AllReadyH.cons rfl (fun K hK => ?_) AllReadyH.nil
            refine step_append_sl rfl (.tmp 72) (.tmp 84) 126 rfl W.heap.size 38 Tryd.underlying126 info_u64 rfl (by omega) rfl HT2.out rfl HN.out (by simp; rfl) (by unfold maxLen; omega) (by omega) HBB.out ?_
            intro v5 w5 ho5 hb5 hsz5 hk5
            simp only [List.getElem_toArray, List.getElem_cons_succ, List.getElem_cons_zero]
            refine hK.out _ _ ?_ (fun hHeld2 => ?_)
            focus
              exact ⟨True.intro, (And.right hHeld).trans hb5⟩
            clear hHeld
            have hHeld := hHeld2
            clear hHeld2 hK K
            try simp only [List.getElem_toArray, List.getElem_cons_succ, List.getElem_cons_zero, Act.put, List.setIfInBounds_toArray, List.set_cons_zero, List.set_cons_succ]
            refine wpAnyH_take (i := 17) (v := ?_) rfl (by kernel_rfl) (by kernel_rfl) (by kernel_rfl) (fun _ _ _ h => h) (Or.inl ⟨by rfl, ?_⟩) (by assumption) ?_
            rotate_left
            focus
              intro U hU
              try dsimp only at hU
              go_simp
              try (with_reducible rfl)
            simp only [List.getElem_toArray, List.getElem_cons_succ, List.getElem_cons_zero, Act.put, List.setIfInBounds_toArray, List.set_cons_zero, List.set_cons_succ]
            obtain ⟨A2, c2, rfl, _⟩ := Sl.of_own ho5
            have HB2 := hid (HB1.out.trans (And.right hHeld))
            have HJ2 : Hid (OwnV r w5 W.heap.size A2 c2 (vs ++ [.pair 5 t1 t2])) := hid (by
              unfold OwnV
              rw [vc_append, List.length_append, HM.out]
              show w5.ownsRow _ _ 1 _ _ (vc r vs ++ [.int .u64 ((valS r (.pair 5 t1 t2) : Nat) : Int)])
              rw [← HE.out]
              exact ho5)
            clear ho5 hb5 hsz5 hk5
            refine wpAnyH_done (by kernel_rfl) ?_ _
            clear hHeld
            go_wp2_with fail
            go_roundw
            case rel => exact ⟨k + 1, _, A2, c2, by omega, by go_num, by rw [List.length_append, HM.out]; rfl, HT.out, HJ2.out, HB2.out⟩
            case measure => simp [intOf]; omega
          · skip
            simp only [List.getElem_toArray, List.getElem_cons_succ, List.getElem_cons_zero]
            go_simp
            refine hK.out _ _ ?_ (fun hHeld2 => ?_)
            focus
              exact hHeld
            clear hHeld
            have hHeld := hHeld2
            clear hHeld2 hK K
            try simp only [List.getElem_toArray, List.getElem_cons_succ, List.getElem_cons_zero, Act.put, List.setIfInBounds_toArray, List.set_cons_zero, List.set_cons_succ]
            refine wpAnyH_ready (rs := [8]) (by kernel_rfl) (by simp) ?_
            refine (AllReadyH.cons rfl (fun K hK => ?_) AllReadyH.nil)
            simp only [List.getElem_toArray, List.getElem_cons_succ, List.getElem_cons_zero]
            go_simp
            refine hK.out _ _ ?_ (fun hHeld2 => ?_)
            focus
              exact hHeld
            clear hHeld
            have hHeld := hHeld2
            clear hHeld2 hK K
            try simp only [List.getElem_toArray, List.getElem_cons_succ, List.getElem_cons_zero, Act.put, List.setIfInBounds_toArray, List.set_cons_zero, List.set_cons_succ]
            refine wpAnyH_take (i := 14) (v := ?_) rfl (by kernel_rfl) (by kernel_rfl) (by kernel_rfl) (fun _ _ _ h => h) (Or.inl ⟨by rfl, ?_⟩) (by assumption) ?_
            rotate_left
            focus
              intro U hU
              try dsimp only at hU
              go_simp
              try (with_reducible rfl)
            simp only [List.getElem_toArray, List.getElem_cons_succ, List.getElem_cons_zero, Act.put, List.setIfInBounds_toArray, List.set_cons_zero, List.set_cons_succ]
            refine wpAnyH_ready (rs := [15]) (by kernel_rfl) (by simp) ?_
            refine AllReadyH.cons rfl (fun K hK => ?_) AllReadyH.nil
            simp only [List.getElem_toArray, List.getElem_cons_succ, List.getElem_cons_zero]
            go_simp
            refine hK.out _ _ ?_ (fun hHeld2 => ?_)
            focus
              exact ⟨True.intro, (And.right hHeld).alloc HBZ.out _⟩
            clear hHeld
            have hHeld := hHeld2
            clear hHeld2 hK K
            try simp only [List.getElem_toArray, List.getElem_cons_succ, List.getElem_cons_zero, Act.put, List.setIfInBounds_toArray, List.set_cons_zero, List.set_cons_succ]
            have HN : Hid (Sl (w1.drew.alloc (.cells #[.int .u64 (bits .or .u64 (vt1 : Int) (vt2 : Int))] 38)) 1 (some ⟨w1.heap.size, 0, none⟩) 1 1 [.int .u64 (bits .or .u64 (vt1 : Int) (vt2 : Int))]) := hid (sl_new1 _ rfl)
            have HT2 : Hid ((w1.drew.alloc (.cells #[.int .u64 (bits .or .u64 (vt1 : Int) (vt2 : Int))] 38)).ownsRow W.heap.size 38 1 (.slice (some ⟨g, 0, none⟩) m c) m (vc r vs)) := hid (own_keep HTK.out (below_drew (Below.refl _ _) |>.alloc (Nat.le_refl _) _))
            have HBB : Hid (W.heap.size ≤ (w1.drew.alloc (.cells #[.int .u64 (bits .or .u64 (vt1 : Int) (vt2 : Int))] 38)).heap.size) := hid (Nat.le_trans HBZ.out (by simp))
            refine wpAnyH_ready (rs := [16]) (by kernel_rfl) (by simp) ?_
            refine AllReadyH.cons rfl (fun K hK => ?_) AllReadyH.nil
            refine step_append_sl rfl (.tmp 72) (.tmp 84) 126 rfl W.heap.size 38 Tryd.underlying126 info_u64 rfl (by omega) rfl HT2.out rfl HN.out (by simp; rfl) (by unfold maxLen; omega) (by omega) HBB.out ?_
            intro v5 w5 ho5 hb5 hsz5 hk5
            simp only [List.getElem_toArray, List.getElem_cons_succ, List.getElem_cons_zero]
            refine hK.out _ _ ?_ (fun hHeld2 => ?_)
            focus
              exact ⟨True.intro, (And.right hHeld).trans hb5⟩
            clear hHeld
            have hHeld := hHeld2
            clear hHeld2 hK K
            try simp only [List.getElem_toArray, List.getElem_cons_succ, List.getElem_cons_zero, Act.put, List.setIfInBounds_toArray, List.set_cons_zero, List.set_cons_succ]
            refine wpAnyH_take (i := 17) (v := ?_) rfl (by kernel_rfl) (by kernel_rfl) (by kernel_rfl) (fun _ _ _ h => h) (Or.inl ⟨by rfl, ?_⟩) (by assumption) ?_
            rotate_left
            focus
              intro U hU
              try dsimp only at hU
              go_simp
              try (with_reducible rfl)
            simp only [List.getElem_toArray, List.getElem_cons_succ, List.getElem_cons_zero, Act.put, List.setIfInBounds_toArray, List.set_cons_zero, List.set_cons_succ]
            obtain ⟨A2, c2, rfl, _⟩ := Sl.of_own ho5
            have HB2 := hid (HB1.out.trans (And.right hHeld))
            have HJ2 : Hid (OwnV r w5 W.heap.size A2 c2 (vs ++ [.pair 5 t1 t2])) := hid (by
              unfold OwnV
              rw [vc_append, List.length_append, HM.out]
              show w5.ownsRow _ _ 1 _ _ (vc r vs ++ [.int .u64 ((valS r (.pair 5 t1 t2) : Nat) : Int)])
              rw [← HE.out]
              exact ho5)
            clear ho5 hb5 hsz5 hk5
            refine wpAnyH_done (by kernel_rfl) ?_ _
            clear hHeld
            go_wp2_with fail
            go_roundw
            case rel => exact ⟨k + 1, _, A2, c2, by omega, by go_num, by rw [List.length_append, HM.out]; rfl, HT.out, HJ2.out, HB2.out⟩
            case measure => simp [intOf]; omega
      · have hge : ¬ (k : Int) < (l.length : Int) := by omega
        have hr2 : runN [] l = some ts := by rw [List.take_of_length_le (by omega)] at hr1; exact hr1
        obtain rfl : [t] = ts := Option.some.inj (HRUN.out.symm.trans hr2)
        obtain ⟨g, rfl⟩ := own_at0 ho1.own (by simp)
        have hc : wr.cell? ⟨g, 0, none⟩ = some (.int .u64 ((valS r t : Nat) : Int)) := by
          obtain ⟨b, off, ha, hc⟩ := (sl_own ho1.own).2.2.2 (by rw [vc_len]; exact Nat.one_pos)
          simp only [Option.some.injEq, Addr.mk.injEq, and_true] at ha
          obtain ⟨rfl, rfl⟩ := ha
          have := hc 0 (by rw [vc_len]; exact Nat.one_pos)
          simpa [vc] using this
        have HB := hid hb1
        simp only [List.length_cons, List.length_nil, Nat.zero_add]
        clear hr1 hr2 ho1 hb1 HX hlen
        generalize hvt : valS r t = vt at *
        go_wp2
        go_ret
        exact ⟨by rw [HVAL.out]; rfl, HB.out⟩
  · have HVAL : Hid (valL r l = 0) := hid (by unfold valL; rw [if_neg h0])
    have HC0 := hid h0
    clear h hl hrow hr
    generalize chkN l = ck at *
    go_enter Tryd.func57, Tryd.ntmps57
    go_wp2_with fail
    refine HCK.out.mono ?_
    rintro e w0 ⟨rfl, hb0⟩
    have HB0 := hid hb0
    clear hb0 HCK
    go_wp2
    go_ret
    exact ⟨by rw [HVAL.out]; rfl, HB0.out⟩
end Go.Proofs.YthohedadmfbahaaDoor
