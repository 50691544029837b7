/- flock.Nth (cut from FlockE). -/
import Derived.RangeFuncNested
import Derived.RangeFuncBound
import Derived.RangeFuncCalls
import Derived.RangeFuncLeaves
import Derived.RangeFuncBox
import Derived.Shelf.Abstract
import Derived.Shelf.RegionOpen
import Derived.WalkKit
import Derived.OwnWalkIn
import Derived.TacticsInMore
import Derived.LoopNIn
import Derived.LoopIn
import Derived.Maps.AppendAt
import Derived.Test.YtgakobolhmdnnaaGreatQAdW
import Derived.Test.YtgakobolhmdnnaaGreatNeP
import Derived.BigQuiet
import Derived.Test.YtgakobolhmdnnaaGreatNmP
import Derived.Laws.Bits128
import Derived.Test.YtgakobolhmdnnaaGreatOcP
import Derived.Test.YtgakobolhmdnnaaGreatGaP
import Derived.Outline
import Derived.Laws.IdiomCopy
import Derived.Lib.MinMax
import Derived.Deep.QuietTactic
namespace Go.Proofs.YtgakobolhmdnnaaGreat
open Go.RowKit Go.Shelf
set_option linter.unusedVariables false
set_option linter.unusedSimpArgs false
attribute [local go_sem] Oper.semAt_some

def nthS (s : Nat) (k : Int) : Int := if k < 0 then -1 else (elems s).getD k.toNat (-1)
/-- What the counter of Nth holds when n elements have come. -/
def Cnt (k : Int) (n : Nat) (d : Int) : Prop := -9223372036854775808 ≤ d ∧ d ≤ 9223372036854775807 ∧ (0 ≤ k → (n : Int) ≤ k) ∧ (d = k - n ∨ (k < 0 ∧ d = k - n + 18446744073709551616))
theorem cnt_step {k d : Int} {n m : Nat} (hk : -9223372036854775808 ≤ k) (hn : n < 64) (h : Cnt k n d) (h0 : d ≠ 0) (hm : m = n + 1) : Cnt k m (wrap64 (d - 1)) := by
  unfold Cnt at *
  have e : wrap64 (d - 1) = if d = -9223372036854775808 then 9223372036854775807 else d - 1 := by
    unfold wrap64
    split <;> omega
  rw [e]
  split <;> omega
set_option maxRecDepth 100000 in
set_option maxHeartbeats 2000000 in
theorem nth_any (s : Nat) (hs : s < 18446744073709551616) (k : Int) (hk : -9223372036854775808 ≤ k ∧ k ≤ 9223372036854775807) (w : World) :
    Calls Tryz.prog 61 #[.int .u64 s, .int .i64 k] w fun e W' => e = .returned (.int .i64 (nthS s k)) ∧ Below w.heap.size w W' := by
  refine (callsIn_wide (n := 4)).1 ?_
  have h1 : 1 ≤ 4 := by omega
  have hl : (elems s).length ≤ 64 := by rw [elems_def]; exact elemsU_len s 64
  obtain ⟨hk1, hk2⟩ := hk
  refine callsIn_of_wp_marks Tryz.func61 rfl trivial ?_ rfl
  simp only [Tryz.ntmps61, List.size_toArray, List.length_cons, List.length_nil, Nat.reduceAdd, Nat.reduceSub, Array.replicate_succ, Array.replicate_zero, List.push_toArray, List.append_toArray, List.nil_append, List.cons_append]
  gi_wp2_with (refine ⟨trivial, ?_⟩; gi_at_call 87; refine (callsIn_wide.2 (each_any s _)).mono ?_; rintro e w' ⟨rfl, rfl⟩)
  have bK := Boxed.new w 3 (.int .i64 k)
  have bR := Boxed.new (w.alloc (.cells #[.int .i64 k] 3)) 3 (.int .i64 0)
  have bN := Boxed.new ((w.alloc (.cells #[.int .i64 k] 3)).alloc (.cells #[.int .i64 0] 3)) 43 (.int .u64 s)
  simp only [World.size_alloc] at bR bN
  have hB0 : Below w.heap.size w (((w.alloc (.cells #[.int .i64 k] 3)).alloc (.cells #[.int .i64 0] 3)).alloc (.cells #[.int .u64 s] 43)) := (((Below.refl _ w).alloc (Nat.le_refl _) _).alloc (by simp) _).alloc (by simp; omega) _
  refine wpIn_rangeFunc_ownG rfl h1 (gf := 115) (lb := #[.pointer (some ⟨w.heap.size + 1 + 1, 0, none⟩)]) rfl trivial (enters_of Tryz.func115 (by kernel_rfl) rfl)
    (each_stops 3 (by omega) (w.heap.size + 1 + 1) s hs _ bN) keepsBox_t keepsBox_b (Below.refl _ _) (fun _ => rfl)
    (fun pre W => ((∃ d, Boxed W w.heap.size 3 (.int .i64 d) ∧ Cnt k pre.length d) ∧ Boxed W (w.heap.size + 1) 3 (.int .i64 0)) ∧ Boxed W (w.heap.size + 1 + 1) 43 (.int .u64 s) ∧ Below w.heap.size w W)
    (fun c pre W => (c = .ret ∧ 0 ≤ k ∧ (pre.length : Int) = k + 1 ∧ Boxed W (w.heap.size + 1) 3 (.int .i64 (pre.getD k.toNat (-1)))) ∧ Below w.heap.size w W)
    (OwnFrom.and (Own.from (fun s A B row hs hg hr => ⟨hs.1.elim fun d h => ⟨d, boxed_own _ _ (fun _ => .int .i64 d) s A B row h.1 hg hr, h.2⟩, boxed_own _ _ (fun _ => .int .i64 0) s A B row hs.2 hg hr⟩) _) (OwnFrom.and (Own.from (boxed_own _ _ _) _) (ownFrom_below (Nat.le_refl _) (by simp; omega))))
    (fun c => OwnFrom.and (Own.from (fun s A B row hs hg hr => ⟨hs.1, hs.2.1, hs.2.2.1, boxed_own _ _ (fun s => .int .i64 ((s : List Int).getD k.toNat (-1))) s A B row hs.2.2.2 hg hr⟩) _) (ownFrom_below (Nat.le_refl _) (by simp; omega)))
    ⟨⟨⟨k, (bK.alloc _).alloc _, by unfold Cnt; simp; omega⟩, bR.alloc _⟩, bN, hB0⟩
    (fun x => { tmps := #[.int .u64 s, .int .i64 k, undef, .pointer (some ⟨w.heap.size, 0, none⟩), .pointer (some ⟨w.heap.size + 1, 0, none⟩), .int .i64 x, .int .u64 s, .func (.func 115) #[] #[.pointer (some ⟨w.heap.size + 1 + 1, 0, none⟩)], .int .i64 x, undef, undef, undef, undef, undef], defers := [] }) ?assign ?body ?done ?stop
  case assign =>
    intro l x W K hK
    gi_wp2
    exact hK
  case body =>
    rintro l pre x W ⟨⟨⟨d, hv, hp⟩, hr⟩, hN, hB⟩ hlt
    have HP := hid hp
    clear hp
    have hc := hv.cell
    have hf := hv.frozen
    have hc2 := hr.cell
    have hf2 := hr.frozen
    have HN := hid hN
    have HB := hid hB
    have HV := hid hv
    have HR := hid hr
    clear hN hB hv hr
    by_cases h0 : d = 0
    · subst h0
      have h3 := HP.out
      unfold Cnt at h3
      have HX : Hid (0 ≤ k ∧ k.toNat = pre.length ∧ ((pre ++ [x]).length : Int) = k + 1) := hid (by simp; omega)
      clear h3 HP
      gi_wp2
      exact ⟨(KeepsOthers.setCell _ _ _).from _, ⟨rfl, HX.out.1, HX.out.2.2, by rw [show (pre ++ [x]).getD k.toNat (-1) = x by rw [HX.out.2.1]; simp]; exact HR.out.set _⟩, HB.out.setCell (p := ⟨w.heap.size + 1, 0, none⟩) (by simp) _⟩
    · have hb : (d == 0) = false := by simpa using h0
      have HX : Hid (Cnt k (pre ++ [x]).length (wrap64 (d - 1))) := hid (cnt_step hk1 hlt HP.out h0 (by simp))
      clear h0
      gi_wp2
      have hN2 := HN.out.other (B' := w.heap.size) (by omega) (.int .i64 (wrap64 (d - 1)))
      exact ⟨(KeepsOthers.setCell _ _ _).from _, keepsBox_of HN.out hN2, ⟨⟨_, HV.out.set _, HX.out⟩, HR.out.other (by omega) _⟩, hN2, HB.out.setCell (p := ⟨w.heap.size, 0, none⟩) (Nat.le_refl _) _⟩
  case done =>
    rintro D ys W hD rfl ⟨⟨⟨d, hv, hp⟩, hr⟩, hN, hB⟩ hK
    have HX : Hid (nthS s k = -1) := hid (by
      unfold nthS
      split
      · rfl
      · have h := hp.2.2.1 (by omega)
        rw [List.getD_eq_getElem?_getD, List.getElem?_eq_none (by omega)]
        rfl)
    have hc2 := hr.cell
    have hf2 := hr.frozen
    have HR := hid hr
    have HB := hid hB
    have HK := hid hK
    have HD := hid hD
    clear hr hB hK hD hv hp hN bK bR bN hB0
    gi_wp2
    have hK' := (KeepsOthers.setCell W ⟨w.heap.size + 1, 0, none⟩ (.int .i64 (-1))).same D _ HK.out rfl
    refine ⟨by simp, .inl ⟨_, _, rfl, run_takeDeferred hK', ?_⟩⟩
    have hD := HD.out
    have hc5 := cell_kept ((HR.out.set (.int .i64 (-1))).cell) (grownBy_putObj' _ D (.deferred none)) (fun r e => by cases e; exact ⟨_, hK', rfl⟩)
    refine ⟨.int .i64 (-1), ?_, by rw [HX.out], (HB.out.setCell (p := ⟨w.heap.size + 1, 0, none⟩) (by simp) _).trans (belowK_b (w := w) (Nat.le_refl _) _ D _ _ (by simp at hD; omega) hK' rfl rfl)⟩
    simp [results, Tryz.f61, go_sem, hc5]
  case stop =>
    rintro D c pre W hD hpre ⟨⟨rfl, h0, hl2, hr⟩, hB⟩ hK
    have HX : Hid (nthS s k = pre.getD k.toNat (-1)) := hid (by
      unfold nthS
      rw [if_neg (by omega)]
      obtain ⟨t, ht⟩ := hpre
      rw [← ht, List.getD_eq_getElem?_getD, List.getD_eq_getElem?_getD, List.getElem?_append_left (by omega)])
    have HR := hid hr
    have HB := hid hB
    have HK := hid hK
    have HD := hid hD
    clear hr hB hK hD hpre h0 hl2 bK bR bN hB0
    gi_wp2
    refine ⟨by simp, .inl ⟨_, _, rfl, run_takeDeferred HK.out, ?_⟩⟩
    have hD := HD.out
    have hc5 := cell_kept HR.out.cell (grownBy_putObj' _ D (.deferred none)) (fun r e => by cases e; exact ⟨_, HK.out, rfl⟩)
    refine ⟨.int .i64 (pre.getD k.toNat (-1)), ?_, by rw [HX.out], HB.out.trans (belowK_b (w := w) (Nat.le_refl _) W D _ _ (by simp at hD; omega) HK.out rfl rfl)⟩
    simp [results, Tryz.f61, go_sem, hc5]
end Go.Proofs.YtgakobolhmdnnaaGreat

namespace Go.Proofs.YtgakobolhmdnnaaGreat
open Go.RowKit
set_option linter.unusedVariables false
set_option linter.unusedSimpArgs false

theorem less_any (s : Nat) (k : Int) (w : World) (hs : s < 18446744073709551616) : Calls Tryz.prog 62 #[.int .u64 s, .int .i64 k] w fun e w' => e = .returned (.int .u64 (lessS s k : Nat)) ∧ w = w' := by
  have hb := bitN_lt k
  go_enter Tryz.func62, Tryz.ntmps62
  go_wp2_with (go_at_call 88; refine (bit_any _ _).mono ?_; rintro e w' ⟨rfl, rfl⟩)
  go_ret
  exact ⟨ret_u64 (u64_andNot_nat s (bitN k) hs hb), rfl⟩
end Go.Proofs.YtgakobolhmdnnaaGreat

namespace Go.Proofs.YtgakobolhmdnnaaGreat
set_option linter.unusedVariables false

def m0 : Nat → Nat | 0 => 0 | n + 1 => 85 + 256 * m0 n
def m1 : Nat → Nat | 0 => 0 | n + 1 => 51 + 256 * m1 n
def m2 : Nat → Nat | 0 => 0 | n + 1 => 15 + 256 * m2 n
theorem m0_succ (n : Nat) : m0 (n + 1) = 85 + 256 * m0 n := rfl
theorem m1_succ (n : Nat) : m1 (n + 1) = 51 + 256 * m1 n := rfl
theorem m2_succ (n : Nat) : m2 (n + 1) = 15 + 256 * m2 n := rfl
def G1 (n x : Nat) : Nat := ((x / 2) &&& m0 n) + (x &&& m0 n)
def G2 (n x : Nat) : Nat := ((x / 4) &&& m1 n) + (x &&& m1 n)
def G3 (n x : Nat) : Nat := (x / 16 + x) &&& m2 n
def h1 (b : Nat) : Nat := ((b / 2) &&& 85) + (b &&& 85)
def h2 (b : Nat) : Nat := ((b / 4) &&& 51) + (b &&& 51)
def pc8 (b : Nat) : Nat := (elemsU b 8).length

theorem and_join (a b c d : Nat) (ha : a < 256) (hc : c < 256) : (a + 256 * b) &&& (c + 256 * d) = (a &&& c) + 256 * (b &&& d) := by
  have hx : a &&& c < 2 ^ 8 := Nat.and_lt_two_pow _ (by omega)
  apply Nat.eq_of_testBit_eq
  intro i
  rw [Nat.testBit_and, Nat.add_comm a, Nat.add_comm c, Nat.add_comm (a &&& c), show (256 : Nat) = 2 ^ 8 from rfl, Nat.testBit_two_pow_mul_add _ (by omega), Nat.testBit_two_pow_mul_add _ (by omega), Nat.testBit_two_pow_mul_add _ hx]
  split
  · rw [Nat.testBit_and]
  · rw [Nat.testBit_and]
theorem c1 : ∀ b : Fin 256, ∀ t : Fin 2, ((b.val / 2 + 128 * t.val) &&& 85) = (b.val / 2) &&& 85 := by decide +kernel
theorem c2 : ∀ b : Fin 256, ∀ t : Fin 4, ((b.val / 4 + 64 * t.val) &&& 51) = (b.val / 4) &&& 51 := by decide +kernel
theorem G1_succ (n x : Nat) : G1 (n + 1) x = h1 (x % 256) + 256 * G1 n (x / 256) := by
  unfold G1 h1
  rw [m0_succ]
  have e1 : x / 2 = (x % 256 / 2 + 128 * (x / 256 % 2)) + 256 * (x / 256 / 2) := by omega
  have e2 : x &&& (85 + 256 * m0 n) = (x % 256 &&& 85) + 256 * (x / 256 &&& m0 n) := by
    conv => lhs; rw [show x = x % 256 + 256 * (x / 256) by omega]
    exact and_join _ _ _ _ (by omega) (by omega)
  have e3 := c1 ⟨x % 256, by omega⟩ ⟨x / 256 % 2, by omega⟩
  simp only at e3
  rw [e2, e1, and_join _ _ _ _ (by omega) (by omega), e3]
  omega
theorem G2_succ (n x : Nat) : G2 (n + 1) x = h2 (x % 256) + 256 * G2 n (x / 256) := by
  unfold G2 h2
  rw [m1_succ]
  have e1 : x / 4 = (x % 256 / 4 + 64 * (x / 256 % 4)) + 256 * (x / 256 / 4) := by omega
  have e2 : x &&& (51 + 256 * m1 n) = (x % 256 &&& 51) + 256 * (x / 256 &&& m1 n) := by
    conv => lhs; rw [show x = x % 256 + 256 * (x / 256) by omega]
    exact and_join _ _ _ _ (by omega) (by omega)
  have e3 := c2 ⟨x % 256, by omega⟩ ⟨x / 256 % 4, by omega⟩
  simp only at e3
  rw [e2, e1, and_join _ _ _ _ (by omega) (by omega), e3]
  omega
theorem h1_lt : ∀ b : Fin 256, h1 b.val < 256 := by decide +kernel
theorem h2_lt : ∀ b : Fin 256, h2 b.val < 256 := by decide +kernel
/-- Every byte's two halves are at most 4. -/
def Nib : Nat → Nat → Prop
  | 0, x => x = 0
  | n + 1, x => (x % 16 ≤ 4 ∧ x / 16 % 16 ≤ 4) ∧ Nib n (x / 256)
theorem c3 : ∀ b : Fin 16, ∀ t : Fin 16, ((b.val + 16 * t.val) &&& 15) = b.val := by decide +kernel
theorem G3_succ (n x : Nat) (h : Nib (n + 1) x) : G3 (n + 1) x = (x % 16 + x / 16 % 16) + 256 * G3 n (x / 256) ∧ x / 256 % 16 ≤ 4 := by
  have h4 : x / 256 % 16 ≤ 4 := by
    cases n with
    | zero => have := h.2; simp only [Nib] at this; omega
    | succ n => exact h.2.1.1
  refine ⟨?_, h4⟩
  obtain ⟨⟨h1, h2⟩, _⟩ := h
  unfold G3
  rw [m2_succ]
  have e1 : x / 16 + x = ((x % 16 + x / 16 % 16) + 16 * (x / 16 % 16 + x / 256 % 16)) + 256 * (x / 256 / 16 + x / 256) := by omega
  have e3 := c3 ⟨x % 16 + x / 16 % 16, by omega⟩ ⟨x / 16 % 16 + x / 256 % 16, by omega⟩
  rw [e1, and_join _ _ _ _ (by omega) (by omega), e3]
theorem d1 : ∀ b : Fin 256, h2 (h1 b.val) % 16 ≤ 4 ∧ h2 (h1 b.val) / 16 % 16 ≤ 4 ∧ h2 (h1 b.val) < 256 ∧ h2 (h1 b.val) % 16 + h2 (h1 b.val) / 16 % 16 = pc8 b.val := by decide +kernel
/-- The bytes of the number of bits. -/
def PCw : Nat → Nat → Nat
  | 0, _ => 0
  | n + 1, x => pc8 (x % 256) + 256 * PCw n (x / 256)
theorem G12 (n x : Nat) : G2 (n + 1) (G1 (n + 1) x) = h2 (h1 (x % 256)) + 256 * G2 n (G1 n (x / 256)) := by
  rw [G2_succ, G1_succ]
  have := h1_lt ⟨x % 256, by omega⟩
  simp only at this
  congr 2
  · congr 1; omega
  · congr 1; omega
theorem nib_G : ∀ n x, Nib n (G2 n (G1 n x))
  | 0, x => by simp [Nib, G2, m1]
  | n + 1, x => by
    have ih := nib_G n (x / 256)
    rw [G12]
    obtain ⟨a, b, c, _⟩ := d1 ⟨x % 256, by omega⟩
    simp only at a b c
    generalize h2 (h1 (x % 256)) = y at *
    generalize G2 n (G1 n (x / 256)) = z at *
    refine ⟨⟨by omega, by omega⟩, ?_⟩
    rw [show (y + 256 * z) / 256 = z by omega]
    exact ih
theorem G_PC : ∀ n x, G3 n (G2 n (G1 n x)) = PCw n x
  | 0, x => by simp [G3, m2, PCw]
  | n + 1, x => by
    have ih := G_PC n (x / 256)
    have hn := nib_G (n + 1) x
    rw [(G3_succ n _ hn).1, PCw, ← ih, G12]
    obtain ⟨a, b, c, d⟩ := d1 ⟨x % 256, by omega⟩
    simp only at a b c d
    generalize h2 (h1 (x % 256)) = y at *
    generalize G2 n (G1 n (x / 256)) = z at *
    rw [show (y + 256 * z) / 256 = z by omega, ← d]
    omega
theorem pc8_le (b : Nat) : pc8 b ≤ 8 := by
  have : ∀ n, (elemsU b n).length ≤ n := by
    intro n
    induction n with
    | zero => simp [elemsU]
    | succ n ih => unfold elemsU; rw [List.length_append]; split <;> simp <;> omega
  exact this 8
/-- The number of elements, byte by byte. -/
def PS : Nat → Nat → Nat
  | 0, _ => 0
  | n + 1, x => pc8 (x % 256) + PS n (x / 256)
theorem elemsU_shift (x k : Nat) : ∀ n, (elemsU x (k + n)).length = (elemsU x k).length + (elemsU (x / 2 ^ k) n).length
  | 0 => by simp [elemsU]
  | n + 1 => by
    rw [← Nat.add_assoc, elemsU, elemsU, List.length_append, List.length_append, elemsU_shift x k n, Nat.testBit_div_two_pow, Nat.add_comm n k]
    split <;> simp <;> omega
theorem elemsU_mod (x k : Nat) : ∀ n, n ≤ k → elemsU x n = elemsU (x % 2 ^ k) n
  | 0, _ => rfl
  | n + 1, h => by rw [elemsU, elemsU, elemsU_mod x k n (by omega), Nat.testBit_mod_two_pow]; simp [show n < k by omega]
theorem PS_eq : ∀ n x, (elemsU x (8 * n)).length = PS n x
  | 0, x => by simp [elemsU, PS]
  | n + 1, x => by
    rw [show 8 * (n + 1) = 8 + 8 * n by omega, elemsU_shift, PS_eq n, PS, pc8, show (256 : Nat) = 2 ^ 8 from rfl, ← elemsU_mod x 8 8 (Nat.le_refl _)]
theorem cnt_eq (s : Nat) : (elems s).length = PS 8 s := by rw [elems_def]; exact PS_eq 8 s
theorem divf (x lo hi m : Nat) (h : x = lo + m * hi) (hlt : lo < m) : x / m = hi := by
  subst h
  rw [Nat.add_mul_div_left _ _ (by omega), Nat.div_eq_of_lt hlt, Nat.zero_add]
theorem modf (x lo hi m : Nat) (h : x = lo + m * hi) (hlt : lo < m) : x % m = lo := by
  subst h
  rw [Nat.add_mul_mod_self_left, Nat.mod_eq_of_lt hlt]
theorem la (d0 d1 d2 d3 d4 d5 d6 d7 : Nat) (p0 : d0 ≤ 8) (p1 : d1 ≤ 8) (p2 : d2 ≤ 8) (p3 : d3 ≤ 8) (p4 : d4 ≤ 8) (p5 : d5 ≤ 8) (p6 : d6 ≤ 8) (p7 : d7 ≤ 8) : (1 * (d0) + 256 * (d1) + 65536 * (d2) + 16777216 * (d3) + 4294967296 * (d4) + 1099511627776 * (d5) + 281474976710656 * (d6) + 72057594037927936 * (d7)) + (1 * (d0) + 256 * (d1) + 65536 * (d2) + 16777216 * (d3) + 4294967296 * (d4) + 1099511627776 * (d5) + 281474976710656 * (d6) + 72057594037927936 * (d7)) / 256 = 1 * (d0 + d1) + 256 * (d1 + d2) + 65536 * (d2 + d3) + 16777216 * (d3 + d4) + 4294967296 * (d4 + d5) + 1099511627776 * (d5 + d6) + 281474976710656 * (d6 + d7) + 72057594037927936 * (d7) := by
  rw [divf _ d0 (1 * (d1) + 256 * (d2) + 65536 * (d3) + 16777216 * (d4) + 4294967296 * (d5) + 1099511627776 * (d6) + 281474976710656 * (d7)) 256 (by omega) (by omega)]
  omega
theorem lb (d0 d1 d2 d3 d4 d5 d6 d7 : Nat) (p0 : d0 ≤ 8) (p1 : d1 ≤ 8) (p2 : d2 ≤ 8) (p3 : d3 ≤ 8) (p4 : d4 ≤ 8) (p5 : d5 ≤ 8) (p6 : d6 ≤ 8) (p7 : d7 ≤ 8) : (1 * (d0 + d1) + 256 * (d1 + d2) + 65536 * (d2 + d3) + 16777216 * (d3 + d4) + 4294967296 * (d4 + d5) + 1099511627776 * (d5 + d6) + 281474976710656 * (d6 + d7) + 72057594037927936 * (d7)) + (1 * (d0 + d1) + 256 * (d1 + d2) + 65536 * (d2 + d3) + 16777216 * (d3 + d4) + 4294967296 * (d4 + d5) + 1099511627776 * (d5 + d6) + 281474976710656 * (d6 + d7) + 72057594037927936 * (d7)) / 65536 = 1 * (d0 + d1 + d2 + d3) + 256 * (d1 + d2 + d3 + d4) + 65536 * (d2 + d3 + d4 + d5) + 16777216 * (d3 + d4 + d5 + d6) + 4294967296 * (d4 + d5 + d6 + d7) + 1099511627776 * (d5 + d6 + d7) + 281474976710656 * (d6 + d7) + 72057594037927936 * (d7) := by
  rw [divf _ (1 * (d0 + d1) + 256 * (d1 + d2)) (1 * (d2 + d3) + 256 * (d3 + d4) + 65536 * (d4 + d5) + 16777216 * (d5 + d6) + 4294967296 * (d6 + d7) + 1099511627776 * (d7)) 65536 (by omega) (by omega)]
  omega
theorem lc (d0 d1 d2 d3 d4 d5 d6 d7 : Nat) (p0 : d0 ≤ 8) (p1 : d1 ≤ 8) (p2 : d2 ≤ 8) (p3 : d3 ≤ 8) (p4 : d4 ≤ 8) (p5 : d5 ≤ 8) (p6 : d6 ≤ 8) (p7 : d7 ≤ 8) : (1 * (d0 + d1 + d2 + d3) + 256 * (d1 + d2 + d3 + d4) + 65536 * (d2 + d3 + d4 + d5) + 16777216 * (d3 + d4 + d5 + d6) + 4294967296 * (d4 + d5 + d6 + d7) + 1099511627776 * (d5 + d6 + d7) + 281474976710656 * (d6 + d7) + 72057594037927936 * (d7)) + (1 * (d0 + d1 + d2 + d3) + 256 * (d1 + d2 + d3 + d4) + 65536 * (d2 + d3 + d4 + d5) + 16777216 * (d3 + d4 + d5 + d6) + 4294967296 * (d4 + d5 + d6 + d7) + 1099511627776 * (d5 + d6 + d7) + 281474976710656 * (d6 + d7) + 72057594037927936 * (d7)) / 4294967296 = 1 * (d0 + d1 + d2 + d3 + d4 + d5 + d6 + d7) + 256 * (d1 + d2 + d3 + d4 + d5 + d6 + d7) + 65536 * (d2 + d3 + d4 + d5 + d6 + d7) + 16777216 * (d3 + d4 + d5 + d6 + d7) + 4294967296 * (d4 + d5 + d6 + d7) + 1099511627776 * (d5 + d6 + d7) + 281474976710656 * (d6 + d7) + 72057594037927936 * (d7) := by
  rw [divf _ (1 * (d0 + d1 + d2 + d3) + 256 * (d1 + d2 + d3 + d4) + 65536 * (d2 + d3 + d4 + d5) + 16777216 * (d3 + d4 + d5 + d6)) (1 * (d4 + d5 + d6 + d7) + 256 * (d5 + d6 + d7) + 65536 * (d6 + d7) + 16777216 * (d7)) 4294967296 (by omega) (by omega)]
  omega
theorem ld (d0 d1 d2 d3 d4 d5 d6 d7 : Nat) (p0 : d0 ≤ 8) (p1 : d1 ≤ 8) (p2 : d2 ≤ 8) (p3 : d3 ≤ 8) (p4 : d4 ≤ 8) (p5 : d5 ≤ 8) (p6 : d6 ≤ 8) (p7 : d7 ≤ 8) : (1 * (d0 + d1 + d2 + d3 + d4 + d5 + d6 + d7) + 256 * (d1 + d2 + d3 + d4 + d5 + d6 + d7) + 65536 * (d2 + d3 + d4 + d5 + d6 + d7) + 16777216 * (d3 + d4 + d5 + d6 + d7) + 4294967296 * (d4 + d5 + d6 + d7) + 1099511627776 * (d5 + d6 + d7) + 281474976710656 * (d6 + d7) + 72057594037927936 * (d7)) % 128 = d0 + d1 + d2 + d3 + d4 + d5 + d6 + d7 := by
  rw [modf _ (d0 + d1 + d2 + d3 + d4 + d5 + d6 + d7) (2 * (d1 + d2 + d3 + d4 + d5 + d6 + d7) + 512 * (d2 + d3 + d4 + d5 + d6 + d7) + 131072 * (d3 + d4 + d5 + d6 + d7) + 33554432 * (d4 + d5 + d6 + d7) + 8589934592 * (d5 + d6 + d7) + 2199023255552 * (d6 + d7) + 562949953421312 * (d7)) 128 (by omega) (by omega)]
theorem le3 (d0 d1 d2 d3 d4 d5 d6 d7 : Nat) : d0 + 256 * (d1 + 256 * (d2 + 256 * (d3 + 256 * (d4 + 256 * (d5 + 256 * (d6 + 256 * (d7 + 256 * 0))))))) = 1 * (d0) + 256 * (d1) + 65536 * (d2) + 16777216 * (d3) + 4294967296 * (d4) + 1099511627776 * (d5) + 281474976710656 * (d6) + 72057594037927936 * (d7) := by omega
theorem lf (d0 d1 d2 d3 d4 d5 d6 d7 : Nat) (p0 : d0 ≤ 8) (p1 : d1 ≤ 8) (p2 : d2 ≤ 8) (p3 : d3 ≤ 8) (p4 : d4 ≤ 8) (p5 : d5 ≤ 8) (p6 : d6 ≤ 8) (p7 : d7 ≤ 8) : (1 * (d0) + 256 * (d1) + 65536 * (d2) + 16777216 * (d3) + 4294967296 * (d4) + 1099511627776 * (d5) + 281474976710656 * (d6) + 72057594037927936 * (d7)) < 9223372036854775808 ∧ (1 * (d0 + d1) + 256 * (d1 + d2) + 65536 * (d2 + d3) + 16777216 * (d3 + d4) + 4294967296 * (d4 + d5) + 1099511627776 * (d5 + d6) + 281474976710656 * (d6 + d7) + 72057594037927936 * (d7)) < 9223372036854775808 ∧ (1 * (d0 + d1 + d2 + d3) + 256 * (d1 + d2 + d3 + d4) + 65536 * (d2 + d3 + d4 + d5) + 16777216 * (d3 + d4 + d5 + d6) + 4294967296 * (d4 + d5 + d6 + d7) + 1099511627776 * (d5 + d6 + d7) + 281474976710656 * (d6 + d7) + 72057594037927936 * (d7)) < 9223372036854775808 ∧ (1 * (d0 + d1 + d2 + d3 + d4 + d5 + d6 + d7) + 256 * (d1 + d2 + d3 + d4 + d5 + d6 + d7) + 65536 * (d2 + d3 + d4 + d5 + d6 + d7) + 16777216 * (d3 + d4 + d5 + d6 + d7) + 4294967296 * (d4 + d5 + d6 + d7) + 1099511627776 * (d5 + d6 + d7) + 281474976710656 * (d6 + d7) + 72057594037927936 * (d7)) < 9223372036854775808 := by
  refine ⟨?_, ?_, ?_, ?_⟩ <;> omega
/-- The three last steps. -/
theorem last (s x4 x5 x6 : Nat) (h4 : x4 = PCw 8 s + PCw 8 s / 256) (h5 : x5 = x4 + x4 / 65536) (h6 : x6 = x5 + x5 / 4294967296) : x6 % 128 = (elems s).length ∧ PCw 8 s < 9223372036854775808 ∧ x4 < 9223372036854775808 ∧ x5 < 9223372036854775808 ∧ x6 < 9223372036854775808 := by
  rw [cnt_eq]
  simp only [PCw, PS] at *
  have p0 := pc8_le (s % 256)
  have p1 := pc8_le (s / 256 % 256)
  have p2 := pc8_le (s / 256 / 256 % 256)
  have p3 := pc8_le (s / 256 / 256 / 256 % 256)
  have p4 := pc8_le (s / 256 / 256 / 256 / 256 % 256)
  have p5 := pc8_le (s / 256 / 256 / 256 / 256 / 256 % 256)
  have p6 := pc8_le (s / 256 / 256 / 256 / 256 / 256 / 256 % 256)
  have p7 := pc8_le (s / 256 / 256 / 256 / 256 / 256 / 256 / 256 % 256)
  generalize pc8 (s / 256 / 256 / 256 / 256 / 256 / 256 / 256 % 256) = d7 at *
  generalize pc8 (s / 256 / 256 / 256 / 256 / 256 / 256 % 256) = d6 at *
  generalize pc8 (s / 256 / 256 / 256 / 256 / 256 % 256) = d5 at *
  generalize pc8 (s / 256 / 256 / 256 / 256 % 256) = d4 at *
  generalize pc8 (s / 256 / 256 / 256 % 256) = d3 at *
  generalize pc8 (s / 256 / 256 % 256) = d2 at *
  generalize pc8 (s / 256 % 256) = d1 at *
  generalize pc8 (s % 256) = d0 at *
  rw [le3] at h4 ⊢
  have a4 := h4.trans (la d0 d1 d2 d3 d4 d5 d6 d7 p0 p1 p2 p3 p4 p5 p6 p7)
  rw [a4, lb d0 d1 d2 d3 d4 d5 d6 d7 p0 p1 p2 p3 p4 p5 p6 p7] at h5
  rw [h5, lc d0 d1 d2 d3 d4 d5 d6 d7 p0 p1 p2 p3 p4 p5 p6 p7] at h6
  have b := lf d0 d1 d2 d3 d4 d5 d6 d7 p0 p1 p2 p3 p4 p5 p6 p7
  have c := ld d0 d1 d2 d3 d4 d5 d6 d7 p0 p1 p2 p3 p4 p5 p6 p7
  rw [a4, h5, h6]
  refine ⟨c.trans ?_, b⟩
  clear b c h4 h5 h6 a4
  omega
end Go.Proofs.YtgakobolhmdnnaaGreat

namespace Go.Proofs.YtgakobolhmdnnaaGreat
open Go.RowKit
set_option linter.unusedVariables false
set_option linter.unusedSimpArgs false

def fA (s : Nat) : Nat := G1 8 s
def fB (s : Nat) : Nat := G2 8 (G1 8 s)
theorem step1 (s : Nat) (hs : s < 18446744073709551616) : IntKind.u64.wrap (bits .and .u64 ((s : Int) / 2) 6148914691236517205 + bits .and .u64 (s : Int) 6148914691236517205) = (G1 8 s : Nat) ∧ G1 8 s < 18446744073709551616 := by
  have e1 : bits .and .u64 ((s : Int) / 2) 6148914691236517205 = ((s / 2 &&& 6148914691236517205 : Nat) : Int) := u64_and_nat (s / 2) 6148914691236517205 (by omega) (by omega)
  have e2 : bits .and .u64 (s : Int) 6148914691236517205 = ((s &&& 6148914691236517205 : Nat) : Int) := u64_and_nat s 6148914691236517205 hs (by omega)
  have l1 : s / 2 &&& 6148914691236517205 ≤ 6148914691236517205 := Nat.and_le_right
  have l2 : s &&& 6148914691236517205 ≤ 6148914691236517205 := Nat.and_le_right
  have e3 : G1 8 s = (s / 2 &&& 6148914691236517205) + (s &&& 6148914691236517205) := by unfold G1; rw [show m0 8 = 6148914691236517205 from rfl]
  rw [e1, e2, e3]
  generalize s / 2 &&& 6148914691236517205 = a at *
  generalize s &&& 6148914691236517205 = b at *
  exact ⟨by rw [← Int.natCast_add]; exact wrap_u64_in _ (by omega) (by omega), by omega⟩
theorem step2 (s : Nat) (hs : s < 18446744073709551616) : IntKind.u64.wrap (bits .and .u64 ((s : Int) / 4) 3689348814741910323 + bits .and .u64 (s : Int) 3689348814741910323) = (G2 8 s : Nat) ∧ G2 8 s < 18446744073709551616 := by
  have e1 : bits .and .u64 ((s : Int) / 4) 3689348814741910323 = ((s / 4 &&& 3689348814741910323 : Nat) : Int) := u64_and_nat (s / 4) 3689348814741910323 (by omega) (by omega)
  have e2 : bits .and .u64 (s : Int) 3689348814741910323 = ((s &&& 3689348814741910323 : Nat) : Int) := u64_and_nat s 3689348814741910323 hs (by omega)
  have l1 : s / 4 &&& 3689348814741910323 ≤ 3689348814741910323 := Nat.and_le_right
  have l2 : s &&& 3689348814741910323 ≤ 3689348814741910323 := Nat.and_le_right
  have e3 : G2 8 s = (s / 4 &&& 3689348814741910323) + (s &&& 3689348814741910323) := by unfold G2; rw [show m1 8 = 3689348814741910323 from rfl]
  rw [e1, e2, e3]
  generalize s / 4 &&& 3689348814741910323 = a at *
  generalize s &&& 3689348814741910323 = b at *
  exact ⟨by rw [← Int.natCast_add]; exact wrap_u64_in _ (by omega) (by omega), by omega⟩
theorem G2_top (s : Nat) : G2 8 s < 7378697629483820647 := by
  have l1 : s / 4 &&& m1 8 ≤ m1 8 := Nat.and_le_right
  have l2 : s &&& m1 8 ≤ m1 8 := Nat.and_le_right
  have e : m1 8 = 3689348814741910323 := rfl
  unfold G2
  omega
theorem step3 (s : Nat) (hs : s < 7378697629483820647) : bits .and .u64 (IntKind.u64.wrap ((s : Int) / 16 + (s : Int))) 1085102592571150095 = (G3 8 s : Nat) := by
  rw [wrap_u64_in _ (by omega) (by omega), show ((s : Int) / 16 + (s : Int)) = ((s / 16 + s : Nat) : Int) by omega]
  exact u64_and_nat (s / 16 + s) 1085102592571150095 (by omega) (by omega)

set_option maxHeartbeats 400000 in
theorem ones_any (s : Nat) (w : World) (hs : s < 18446744073709551616) : Calls Tryz.prog 60 #[.int .u64 s] w fun e w' => e = .returned (.int .i64 ((elems s).length : Nat)) ∧ w = w' := by
  obtain ⟨a1, a2⟩ := step1 s hs
  obtain ⟨b1, _⟩ := step2 (G1 8 s) a2
  have c1 := step3 (G2 8 (G1 8 s)) (G2_top _)
  rw [G_PC] at c1
  obtain ⟨d1, d2, d3, d4, d5⟩ := last s _ _ _ rfl rfl rfl
  have HD := hid d1
  clear d1
  generalize hx4 : PCw 8 s + PCw 8 s / 256 = x4 at *
  generalize hx5 : x4 + x4 / 65536 = x5 at *
  generalize hx6 : x5 + x5 / 4294967296 = x6 at *
  have H4 := hid hx4
  have H5 := hid hx5
  have H6 := hid hx6
  have A1 := hid a1
  have B1 := hid b1
  have C1 := hid c1
  clear hx4 hx5 hx6 a1 b1 c1 a2
  generalize G2 8 (G1 8 s) = y2 at *
  generalize G1 8 s = y1 at *
  generalize PCw 8 s = y3 at *
  generalize (elems s).length = n at *
  go_enter Tryz.func60, Tryz.ntmps60
  go_upto_region 2 with (fail)
  rw [A1.out]
  go_upto_region 3 with (fail)
  rw [B1.out]
  go_upto_region 4 with (fail)
  rw [C1.out]
  go_upto_region 5 with (fail)
  rw [show ((y3 : Int) + (y3 : Int) / 256) = (x4 : Int) by have := H4.out; omega]
  go_upto_region 6 with (fail)
  rw [show ((x4 : Int) + (x4 : Int) / 65536) = (x5 : Int) by have := H5.out; omega]
  go_upto_region 7 with (fail)
  rw [show ((x5 : Int) + (x5 : Int) / 4294967296) = (x6 : Int) by have := H6.out; omega]
  go_wp2
  go_ret
  exact ⟨ret_i64 (by rw [i64_and127]; have := HD.out; omega), rfl⟩
theorem count_any (s : Nat) (w : World) (hs : s < 18446744073709551616) : Calls Tryz.prog 43 #[.int .u64 s] w fun e w' => e = .returned (.int .i64 ((elems s).length : Nat)) ∧ w = w' := by
  have H := hid (fun w => ones_any s w hs)
  generalize (elems s).length = n at *
  go_enter Tryz.func43, Tryz.ntmps43
  go_wp2_with (go_at_call 60; refine (H.out _).mono ?_; rintro e w' ⟨rfl, rfl⟩)
  go_ret
  exact ⟨rfl, rfl⟩
end Go.Proofs.YtgakobolhmdnnaaGreat

namespace Go.Proofs.YtgakobolhmdnnaaGreat
open Go.RowKit
set_option linter.unusedVariables false
set_option linter.unusedSimpArgs false

theorem elemsU_below (s k : Nat) : ∀ n, k ≤ n → elemsU (s &&& (2 ^ k - 1)) n = elemsU s k := by
  intro n h
  obtain ⟨d, rfl⟩ : ∃ d, n = k + d := ⟨n - k, by omega⟩
  clear h
  induction d with
  | zero =>
    rw [Nat.and_two_pow_sub_one_eq_mod]
    exact (elemsU_mod s k k (Nat.le_refl _)).symm
  | succ d ih =>
    rw [← Nat.add_assoc, elemsU, ih, Nat.testBit_and, Nat.testBit_two_pow_sub_one]
    simp
theorem count_below (s k : Nat) (hk : k < 64) : (elems (s &&& belowS k)).length = (elemsU s k).length := by
  have hb : belowS (k : Int) = 2 ^ k - 1 := by
    unfold belowS
    by_cases h : k = 0
    · subst h; rfl
    · rw [if_neg (by omega), if_neg (by omega)]; simp
  rw [elems_def, hb, elemsU_below s k 64 (by omega)]
/-- The element that has n below it. -/
theorem nth_below (s k : Nat) (hk : k < 64) : (nthS s ((elemsU s k).length : Nat) == (k : Int)) = hasS s k := by
  have h64 := elemsU_pre s (k + 1) 64 (by omega)
  rw [← elems_def] at h64
  obtain ⟨t, ht⟩ := h64
  unfold nthS
  rw [if_neg (by omega), Int.toNat_natCast, hasS_nat s k hk]
  by_cases hb : s.testBit k = true
  · rw [hb, ← ht, elemsU_yes hb, List.getD_eq_getElem?_getD, List.append_assoc, List.getElem?_append_right (Nat.le_refl _)]
    simp
  · have hb' : s.testBit k = false := by simpa using hb
    rw [hb', beq_eq_false_iff_ne]
    intro h
    have hm : (k : Int) ∈ elems s := by
      rw [List.getD_eq_getElem?_getD] at h
      rcases hx : (elems s)[(elemsU s k).length]? with _ | x
      · rw [hx] at h; simp at h
      · rw [hx] at h
        simp at h
        rw [← h]
        exact List.mem_of_getElem? hx
    have := (mem_elems s k).1 hm
    simp [hb'] at this
theorem withS_bit (s : Nat) (k i : Nat) (hk : k < 64) : (withS s k).testBit i = (s.testBit i || decide (i = k)) := by
  rw [withS, Nat.testBit_or, bitN_bit, Bool.eq_iff_iff]
  simp
  constructor
  · rintro (h | h)
    · exact .inl h
    · exact .inr (by omega)
  · rintro (h | h)
    · exact .inl h
    · exact .inr (by omega)
theorem lessS_bit (s : Nat) (k i : Nat) (hs : s < 18446744073709551616) : (lessS s k).testBit i = (s.testBit i && !decide (i = k)) := by
  have e : 18446744073709551615 - bitN k = 2 ^ 64 - (bitN k + 1) := by simp only [Nat.reducePow]; omega
  rw [lessS, Nat.testBit_and, e, Nat.testBit_two_pow_sub_succ (by simpa using bitN_lt k), bitN_bit]
  by_cases h : i < 64
  · simp only [h, decide_true, Bool.true_and]
    congr 2
    rw [decide_eq_decide]
    omega
  · rw [bit_high hs (by omega)]; simp
theorem cnt_more (s k : Nat) (hk : k < 64) (hs : s < 18446744073709551616) : ∀ n, (elemsU (withS s k) n).length = (elemsU (lessS s k) n).length + if k < n then 1 else 0
  | 0 => by simp [elemsU]
  | n + 1 => by
    rw [elemsU, elemsU, List.length_append, List.length_append, cnt_more s k hk hs n, withS_bit s k n hk, lessS_bit s k n hs]
    by_cases h : n = k
    · subst h
      simp
    · have h1 : (n = k) = False := by simp [h]
      by_cases h2 : k < n
      · simp [h1, h2, show k < n + 1 by omega]; omega
      · simp [h1, h2, show ¬ k < n + 1 by omega]
theorem cnt_one (s k : Nat) (hk : k < 64) (hs : s < 18446744073709551616) : (elems (withS s k)).length = (elems (lessS s k)).length + 1 := by
  rw [elems_def, elems_def, cnt_more s k hk hs 64, if_pos hk]

end Go.Proofs.YtgakobolhmdnnaaGreat

namespace Go.Proofs.YtgakobolhmdnnaaGreat
open Go.RowKit
set_option linter.unusedVariables false

/-- What m draws tell of a list without what was told, and the draws that are left. -/
def pk : Nat → List Nat → List Int → List Int × List Nat
  | 0, l, _ => ([], l)
  | m + 1, l, e => if e.length = 0 then ([], l) else (e.getD (l.headD 0 % e.length) 0 :: (pk m l.tail (e.eraseIdx (l.headD 0 % e.length))).1, (pk m l.tail (e.eraseIdx (l.headD 0 % e.length))).2)
theorem pk_nil (m : Nat) (l : List Nat) : pk m l [] = ([], l) := by cases m <;> rfl
theorem pk_zero (l : List Nat) (e : List Int) : pk 0 l e = ([], l) := rfl
theorem pk_step (m : Nat) (l : List Nat) (e : List Int) (h : e.length ≠ 0) : pk (m + 1) l e = (e.getD (l.headD 0 % e.length) 0 :: (pk m l.tail (e.eraseIdx (l.headD 0 % e.length))).1, (pk m l.tail (e.eraseIdx (l.headD 0 % e.length))).2) := by rw [pk, if_neg h]
theorem idx_lt (l : List Nat) (e : List Int) (h : e.length ≠ 0) : l.headD 0 % e.length < e.length := Nat.mod_lt _ (by omega)
theorem erase_len (e : List Int) (i : Nat) (h : i < e.length) : (e.eraseIdx i).length = e.length - 1 := by rw [List.length_eraseIdx, if_pos h]
theorem pk_len : ∀ m l e, (pk m l e).1.length = min m e.length
  | 0, _, _ => by simp [pk]
  | m + 1, l, e => by
    by_cases h : e.length = 0
    · rw [pk, if_pos h, h]; simp
    · rw [pk_step m l e h, List.length_cons, pk_len m, erase_len _ _ (idx_lt l e h)]; omega
theorem pk_mem : ∀ m l e x, x ∈ (pk m l e).1 → x ∈ e
  | 0, _, _, x, h => by simp [pk] at h
  | m + 1, l, e, x, h => by
    by_cases h0 : e.length = 0
    · rw [pk, if_pos h0] at h; simp at h
    · have hi := idx_lt l e h0
      rw [pk_step m l e h0, List.mem_cons] at h
      rcases h with rfl | h
      · rw [List.getD_eq_getElem?_getD, List.getElem?_eq_getElem hi]
        exact List.getElem_mem hi
      · exact List.mem_of_mem_eraseIdx (pk_mem m _ _ x h)
theorem not_mem_erase {e : List Int} (hn : e.Nodup) {i : Nat} (hi : i < e.length) : e.getD i 0 ∉ e.eraseIdx i := by
  rw [List.getD_eq_getElem?_getD, List.getElem?_eq_getElem hi, Option.getD_some, List.mem_eraseIdx_iff_getElem]
  rintro ⟨j, hj, hne, h⟩
  exact hne ((List.getElem_inj hn).1 h)
theorem pk_nodup : ∀ m l e, e.Nodup → (pk m l e).1.Nodup
  | 0, _, _, _ => by simp [pk]
  | m + 1, l, e, h => by
    by_cases h0 : e.length = 0
    · rw [pk, if_pos h0]; simp
    · have hi := idx_lt l e h0
      rw [pk_step m l e h0, List.nodup_cons]
      refine ⟨fun hx => ?_, pk_nodup m _ _ (h.sublist (List.eraseIdx_sublist _ _))⟩
      have := pk_mem m _ _ _ hx
      exact not_mem_erase h hi this
theorem elemsU_lt (s : Nat) : ∀ n x, x ∈ elemsU s n → 0 ≤ x ∧ x < n := fun n x h => by have := (mem_elemsU s x n).1 h; exact ⟨this.1, this.2.1⟩
theorem elemsU_nodup (s : Nat) : ∀ n, (elemsU s n).Nodup
  | 0 => by simp [elemsU]
  | n + 1 => by
    cases h : s.testBit n with
    | true =>
      rw [elemsU_yes h, List.nodup_append]
      refine ⟨elemsU_nodup s n, by simp, fun a ha b hb => ?_⟩
      have := elemsU_lt s n a ha
      simp at hb
      omega
    | false => rw [elemsU_no h]; exact elemsU_nodup s n
theorem elems_nodup (s : Nat) : (elems s).Nodup := by rw [elems_def]; exact elemsU_nodup s 64
theorem elemsU_less (s : Nat) (x : Nat) (hs : s < 18446744073709551616) : ∀ n, elemsU (lessS s x) n = (elemsU s n).filter (· != (x : Int))
  | 0 => rfl
  | n + 1 => by
    have ih := elemsU_less s x hs n
    have hb := lessS_bit s x n hs
    cases h : s.testBit n with
    | true =>
      rw [elemsU_yes h, List.filter_append, ← ih]
      by_cases hx : n = x
      · subst hx
        rw [elemsU_no (by rw [hb, h]; simp)]
        simp
      · rw [elemsU_yes (by rw [hb, h]; simp [hx])]
        have : ((n : Int) != (x : Int)) = true := by simp; omega
        simp [this]
    | false =>
      rw [elemsU_no h, elemsU_no (by rw [hb, h]; simp), ih]
theorem filter_erase : ∀ (e : List Int) (i : Nat), e.Nodup → i < e.length → e.filter (· != e.getD i 0) = e.eraseIdx i
  | a :: e, 0, hn, _ => by
    rw [List.nodup_cons] at hn
    simp only [List.getD_cons_zero, List.eraseIdx_zero, List.tail_cons, List.filter_cons, bne_self_eq_false, Bool.false_eq_true, if_false]
    exact List.filter_eq_self.2 fun y hy => by
      simp only [bne_iff_ne, ne_eq]
      rintro rfl
      exact hn.1 hy
  | a :: e, i + 1, hn, hi => by
    rw [List.nodup_cons] at hn
    have hi' : i < e.length := by simpa using hi
    have hm : e.getD i 0 ∈ e := by rw [List.getD_eq_getElem?_getD, List.getElem?_eq_getElem hi']; exact List.getElem_mem hi'
    have hne : (a != e.getD i 0) = true := by
      simp only [bne_iff_ne, ne_eq]
      intro h
      exact hn.1 (h ▸ hm)
    simp only [List.getD_cons_succ, List.eraseIdx_cons_succ, List.filter_cons, hne, if_true]
    rw [filter_erase e i hn.2 hi']
theorem nthS_at (s : Nat) (i : Nat) (h : i < (elems s).length) : nthS s (i : Int) = (elems s).getD i 0 ∧ 0 ≤ nthS s (i : Int) ∧ nthS s (i : Int) < 64 := by
  have e : nthS s (i : Int) = (elems s).getD i 0 := by
    unfold nthS
    rw [if_neg (by omega), Int.toNat_natCast, List.getD_eq_getElem?_getD, List.getD_eq_getElem?_getD, List.getElem?_eq_getElem h]
    rfl
  refine ⟨e, ?_⟩
  rw [e]
  have hm : (elems s).getD i 0 ∈ elems s := by rw [List.getD_eq_getElem?_getD, List.getElem?_eq_getElem h]; exact List.getElem_mem h
  have := (mem_elems s _).1 hm
  exact ⟨this.1, this.2.1⟩
/-- A set without its element of index i. -/
theorem elems_without (s i : Nat) (hs : s < 18446744073709551616) (h : i < (elems s).length) : elems (lessS s (nthS s (i : Int))) = (elems s).eraseIdx i := by
  obtain ⟨e, h0, h1⟩ := nthS_at s i h
  rw [← filter_erase _ i (elems_nodup s) h, ← e]
  generalize nthS s (i : Int) = x at *
  obtain ⟨n, rfl⟩ := Int.eq_ofNat_of_zero_le h0
  rw [elems_def, elems_def]
  exact elemsU_less s n hs 64

/-- What a walk of Some holds at its loop's head: k are told, these draws and elements are left. -/
def PkAt (m : Nat) (l : List Nat) (e : List Int) (k : Nat) (l' : List Nat) (e' acc : List Int) : Prop :=
  acc ++ (pk (m - k) l' e').1 = (pk m l e).1 ∧ (pk (m - k) l' e').2 = (pk m l e).2 ∧ acc.length = k ∧ e'.length + k = e.length
theorem PkAt.start (m : Nat) (l : List Nat) (e : List Int) : PkAt m l e 0 l e [] := ⟨by simp, by simp, rfl, rfl⟩
theorem PkAt.next {m : Nat} {l : List Nat} {e : List Int} {k : Nat} {l' : List Nat} {e' acc : List Int} (h : PkAt m l e k l' e' acc) (hk : k < m) (he : e'.length ≠ 0) :
    PkAt m l e (k + 1) l'.tail (e'.eraseIdx (l'.headD 0 % e'.length)) (acc ++ [e'.getD (l'.headD 0 % e'.length) 0]) := by
  obtain ⟨h1, h2, h3, h4⟩ := h
  have hi := idx_lt l' e' he
  rw [show m - k = (m - (k + 1)) + 1 by omega, pk_step _ _ _ he] at h1 h2
  refine ⟨by rw [← h1]; simp, h2, by simp [h3], by rw [erase_len _ _ hi]; omega⟩
theorem PkAt.stop {m : Nat} {l : List Nat} {e : List Int} {k : Nat} {l' : List Nat} {e' acc : List Int} (h : PkAt m l e k l' e' acc) (hs : m ≤ k ∨ e'.length = 0) : (pk m l e) = (acc, l') := by
  obtain ⟨h1, h2, h3, h4⟩ := h
  have : pk (m - k) l' e' = ([], l') := by
    rcases hs with hs | hs
    · rw [show m - k = 0 by omega]; rfl
    · rw [List.eq_nil_of_length_eq_zero hs, pk_nil]
  rw [this] at h1 h2
  simp only [List.append_nil] at h1 h2
  rw [h1, h2]
attribute [irreducible] pk PkAt
end Go.Proofs.YtgakobolhmdnnaaGreat

namespace Go.Proofs.YtgakobolhmdnnaaGreat
open Go.RowKit
set_option linter.unusedVariables false
set_option linter.unusedSimpArgs false

def ucells (l : List Nat) : List Value := l.map fun (x : Nat) => .int .u64 (x : Int)
theorem ucells_length (l : List Nat) : (ucells l).length = l.length := by simp [ucells]
theorem ucells_one (l : List Nat) : ∀ u ∈ ucells l, u.oneCell' = true := by
  intro u hu
  simp only [ucells, List.mem_map] at hu
  obtain ⟨c, _, rfl⟩ := hu
  rfl
theorem info_u64w : (Tryz.prog.info? 43).map (fun i => (i.zero, i.size, i.bytes)) = some (some (.int .u64 0), 1, 8) := by kernel_rfl
/-- Block T is a tape with these draws, which lie in blocks below N. -/
def TapeAt (w : World) (T N : Nat) (l : List Nat) : Prop := ∃ A c, w.heap[T]? = some (.cells #[.slice A l.length c] 62 (0, 0)) ∧ Sl w 1 A l.length c (ucells l) ∧ (0 < l.length → ∃ b off, A = some ⟨b, off, none⟩ ∧ b < N)
theorem TapeAt.lt {w : World} {T N : Nat} {l : List Nat} (h : TapeAt w T N l) : T < w.heap.size := by
  obtain ⟨_, _, h, _⟩ := h
  exact lt_of_block h
theorem TapeAt.below {w w' : World} {T N : Nat} {l : List Nat} (h : TapeAt w T N l) (hb : Below w.heap.size w w') : TapeAt w' T N l := by
  obtain ⟨A, c, h1, h2, h3⟩ := h
  exact ⟨A, c, keep0 h1 hb, h2.below hb, h3⟩
theorem TapeAt.of {w : World} {T : Nat} {A : Option Addr} {c : Nat} {l : List Nat} (h1 : w.heap[T]? = some (.cells #[.slice A l.length c] 62 (0, 0))) (h2 : Sl w 1 A l.length c (ucells l)) : TapeAt w T w.heap.size l := by
  refine ⟨A, c, h1, h2, fun h0 => ?_⟩
  obtain ⟨b, off, rfl, hc⟩ := Sl.at h2 0 (by rw [ucells_length]; exact h0)
  exact ⟨b, off, rfl, lt_of_cell hc⟩
theorem TapeAt.now {w : World} {T N : Nat} {l : List Nat} (h : TapeAt w T N l) : TapeAt w T w.heap.size l := by
  obtain ⟨A, c, h1, h2, h3⟩ := h
  exact TapeAt.of h1 h2
theorem TapeAt.only {w w' : World} {T N R : Nat} {l : List Nat} (h : TapeAt w T N l) (ho : Only R w w') (hR : N ≤ R) (hT : T ≠ R) : TapeAt w' T N l := by
  obtain ⟨A, c, h1, h2, h3⟩ := h
  refine ⟨A, c, ho.block h1 hT, ⟨h2.1, h2.2.1, h2.2.2.1, fun h0 => ?_⟩, h3⟩
  obtain ⟨b, off, ha, hc⟩ := h2.2.2.2 h0
  obtain ⟨b', off', ha', hb⟩ := h3 (by rw [← ucells_length]; exact h0)
  rw [ha] at ha'
  cases ha'
  refine ⟨b, off, ha, fun i hi => ?_⟩
  have h4 := hc i hi
  rw [List.getElem?_eq_getElem hi] at h4 ⊢
  rw [World.cell?_of_block (ho.keep b (by omega) (lt_of_cell h4))]
  exact h4
/-- A store of a slice value into a block of one slice leaves rows of integers alone. -/
theorem sl_apart {w : World} {A : Option Addr} {len cap T t : Nat} {l : List Nat} {x : Value} (h : Sl w 1 A len cap (ucells l)) (hT : w.heap[T]? = some (.cells #[x] t (0, 0))) (hx : ∀ n, x ≠ .int .u64 n) (v : Value) : Sl (w.setCell ⟨T, 0, none⟩ v) 1 A len cap (ucells l) := by
  refine ⟨h.1, h.2.1, h.2.2.1, fun h0 => ?_⟩
  obtain ⟨b, off, rfl, hc⟩ := h.2.2.2 h0
  have hne : b ≠ T := by
    rintro rfl
    have h1 := hc 0 h0
    rw [Nat.add_zero, cell_of_row w b off _ t (0, 0) hT, List.getElem?_eq_getElem h0] at h1
    simp only [ucells, List.getElem_map] at h1
    match off, h1 with
    | 0, h1 => simp at h1; exact hx _ h1
    | m + 1, h1 => simp at h1
  refine ⟨b, off, rfl, fun i hi => ?_⟩
  rw [World.cell?_of_block (Below.heap_setCell _ _ _ _ hne), hc i hi]

set_option maxRecDepth 20000 in
theorem tnew_any (A : Option Addr) (len cap : Nat) (l : List Nat) (W : World) (h : Sl W 1 A len cap (ucells l)) (hl : len ≤ 1000) :
    Calls Tryz.prog 8 #[.slice A len cap] W fun e w' => ∃ T, e = .returned (.pointer (some ⟨T, 0, none⟩)) ∧ W.heap.size ≤ T ∧ TapeAt w' T w'.heap.size l ∧ Below W.heap.size W w' := by
  obtain rfl : len = l.length := by have := h.1; rw [ucells_length] at this; omega
  have HA := hid h
  have HL := hid hl
  clear h hl
  have HADD : Hid (∀ w, Below W.heap.size W w → w.heap[W.heap.size]? = some (.cells #[.slice none 0 0] 62 (0, 0)) → Calls Tryz.prog 27 #[.pointer (some ⟨W.heap.size, 0, none⟩), .slice A l.length cap] w fun e w' => (∃ v, e = .returned v) ∧ TapeAt w' W.heap.size w'.heap.size l ∧ Below W.heap.size W w') := by
    intro w hb hT
    have hc := cell_of_row w W.heap.size 0 _ _ _ hT
    have hf := frozen_of_row w W.heap.size 0 _ _ hT
    have HT := hid hT
    have HB := hid hb
    clear hT hb
    simp at hc
    go_enter Tryz.func27, Tryz.ntmps27
    go_wp2_with (at_builtin; refine wpList_append_sl (W := w) rfl (.tmp 10) (.tmp 11) 30 rfl w.heap.size 43 Tryz.underlying30 info_u64w rfl (by omega) rfl (World.ownsRow_nil _ _ _ _) rfl (HA.out.below HB.out) (ucells_one _) (by have := HL.out; unfold maxLen; omega) (by have := HL.out; omega) (Nat.le_refl _) (Below.refl _ _) ?_)
    intro v1 w1 ho1 hb1 _
    obtain ⟨A1, c1, rfl, hs1⟩ := Sl.of_own ho1
    have HS1 := hid hs1
    clear hs1
    have hT1 := keep0 HT.out hb1
    have hc1 := cell_of_row w1 W.heap.size 0 _ _ _ hT1
    have hf1 := frozen_of_row w1 W.heap.size 0 _ _ hT1
    simp at hc1
    have HT1 := hid hT1
    have HB1 := hid hb1
    clear hT1 ho1 hb1
    go_wp2
    go_end0
    refine ⟨⟨_, rfl⟩, ?_, ?_⟩
    · exact TapeAt.of (by simpa using heap_setCell_same w1 W.heap.size 0 _ _ (.slice A1 l.length c1) HT1.out) (sl_apart HS1.out HT1.out (fun n => by simp) _)
    · exact (HB.out.trans (HB1.out.mono HB.out.size)).setCell (Nat.le_refl _) _
  go_enter Tryz.func8, Tryz.ntmps8
  go_wp2_with fail
  refine (HADD.out _ ((Below.refl _ _).alloc (Nat.le_refl _) _) (heap_alloc_new _ _)).mono ?_
  rintro e w1 ⟨⟨v, rfl⟩, hT, hb⟩
  have HT := hid hT
  have HB := hid hb
  clear hT hb HADD
  go_wp2
  go_ret
  exact ⟨W.heap.size, rfl, Nat.le_refl _, HT.out, HB.out⟩

set_option maxRecDepth 20000 in
theorem tnext_any (T N : Nat) (l : List Nat) (W : World) (h : TapeAt W T N l) (hl : l.length ≤ 9223372036854775807) :
    Calls Tryz.prog 63 #[.pointer (some ⟨T, 0, none⟩)] W fun e w' => e = .returned (.int .u64 (l.headD 0 : Nat)) ∧ TapeAt w' T N l.tail ∧ Only T W w' := by
  have H := hid h
  obtain ⟨A, c, hT, hs, hN⟩ := h
  have hc := cell_of_row W T 0 _ _ _ hT
  have hf := frozen_of_row W T 0 _ _ hT
  simp at hc
  rcases l with _ | ⟨x, r⟩
  · clear hs hT
    go_enter Tryz.func63, Tryz.ntmps63
    go_wp2
    go_ret
    exact ⟨rfl, H.out, Only.refl _ _⟩
  · have hcap : (x :: r).length ≤ c := hs.2.1
    obtain ⟨b, off, rfl, hc0⟩ := Sl.at hs 0 (by simp [ucells])
    have hbN : b < N := by obtain ⟨b', off', h1, h2⟩ := hN (by simp); cases h1; exact h2
    clear hN
    have HBN := hid hbN
    clear hbN
    simp [ucells] at hc0
    have HD := hid (hs.drop 1 (by simp))
    have hrun : ∀ w : World, (Instr.slice 30 (.slice (some ⟨b, off, none⟩) (x :: r).length c) (some (.int .i64 1)) none none).run Tryz.prog w = .ok (.slice (dropA (some ⟨b, off, none⟩) c 1 1) ((x :: r).length - 1) (c - 1)) w := fun w => by
      have := run_from Tryz.underlying30 info_u64w (some ⟨b, off, none⟩) (x :: r).length c 1 (by simp) w
      simpa using this
    have HT := hid hT
    have hlen : (x :: r).length = r.length + 1 := rfl
    rw [hlen] at hrun hc HT HD hl
    have hp : (0 : Int) < ((r.length + 1 : Nat) : Int) := by omega
    have hne : (((r.length + 1 : Nat) : Int) == 0) = false := by simp; omega
    generalize hnn : r.length + 1 = n at *
    have HN := hid hnn
    have HC := hid hcap
    clear hnn
    clear hs hT hcap H hlen
    go_enter Tryz.func63, Tryz.ntmps63
    go_wp2
    go_ret
    have hn := HN.out
    have e1 : n - 1 = r.length := by omega
    have h2 := HD.out
    have h3 := heap_setCell_same W T 0 _ _ (.slice (dropA (some ⟨b, off, none⟩) c 1 1) (n - 1) (c - 1)) HT.out
    rw [e1] at h2 h3 ⊢
    refine ⟨rfl, ⟨_, _, by simpa using h3, ?_, fun h0 => ?_⟩, (Only.refl _ _).set 0 _⟩
    · exact sl_apart (by simpa [ucells] using h2) HT.out (fun n => by simp) _
    · simp only [List.tail_cons] at h0
      refine ⟨b, off + 1, ?_, HBN.out⟩
      have : c ≠ 1 := by have := HC.out; simp only [List.length_cons] at this; omega
      rw [dropA, if_neg this]
      simp [add_none]

/-- What Below(n) tells and leaves. -/
def blw (n : Int) (l : List Nat) : Nat := if n < 1 then 0 else l.headD 0 % n.toNat
set_option maxRecDepth 20000 in
theorem tbelow_any (T N : Nat) (l : List Nat) (n : Int) (W : World) (h : TapeAt W T N l) (hl : l.length ≤ 9223372036854775807) (hu : ∀ x ∈ l, x < 18446744073709551616) (hn : n ≤ 9223372036854775807) :
    Calls Tryz.prog 45 #[.pointer (some ⟨T, 0, none⟩), .int .i64 n] W fun e w' => e = .returned (.int .i64 (blw n l : Nat)) ∧ TapeAt w' T N (if n < 1 then l else l.tail) ∧ Only T W w' := by
  have H := hid h
  have HX := hid (tnext_any T N l W h hl)
  clear h
  by_cases h1 : n < 1
  · have hb : blw n l = 0 := by rw [blw, if_pos h1]
    rw [hb, if_pos h1]
    clear hb HX hu
    go_enter Tryz.func45, Tryz.ntmps45
    go_wp2
    go_ret
    exact ⟨rfl, H.out, Only.refl _ _⟩
  · obtain ⟨m, rfl⟩ : ∃ m : Nat, n = (m : Int) := ⟨n.toNat, by omega⟩
    have hb : blw (m : Int) l = l.headD 0 % m := by rw [blw, if_neg h1, Int.toNat_natCast]
    have hx : l.headD 0 < 18446744073709551616 := by
      cases l with
      | nil => simp
      | cons x r => exact hu x (by simp)
    have hm : (1 : Int) ≤ (m : Int) := by omega
    have hmod := Nat.mod_lt (l.headD 0) (show 0 < m by omega)
    have hz : ((m : Int) == 0) = false := by rw [beq_eq_false_iff_ne]; omega
    rw [hb, if_neg h1]
    generalize l.headD 0 = x at *
    clear hu hb h1
    have hq : ((x : Int) % (m : Int)) = ((x % m : Nat) : Int) := rfl
    have hq2 : ((x : Int).tmod (m : Int)) = ((x % m : Nat) : Int) := rfl
    generalize x % m = y at *
    go_enter Tryz.func45, Tryz.ntmps45
    go_wp2_with fail
    refine HX.out.mono ?_
    rintro e w1 ⟨rfl, hT, hO⟩
    have HT := hid hT
    have HO := hid hO
    clear hT hO HX
    go_wp2
    go_ret
    exact ⟨rfl, HT.out, HO.out⟩
end Go.Proofs.YtgakobolhmdnnaaGreat

namespace Go.Proofs.YtgakobolhmdnnaaGreat
open Go.RowKit
set_option linter.unusedVariables false
set_option linter.unusedSimpArgs false

def Mid (w : World) (base : Nat) (e : TypeId) (size : Nat) (v : Value) (n : Nat) (xs : List Value) : Prop :=
  xs.length = n * size ∧ ((v = .slice none 0 0 ∧ n = 0) ∨
    ∃ g off cap cur, v = .slice (some ⟨g, off, none⟩) n cap ∧ base ≤ g ∧ w.heap[g]? = some (.cells cur e (0, 0)) ∧ n ≤ cap ∧ cap ≤ maxLen ∧ off + cap * size ≤ cur.size ∧ (cur.toList.drop off).take (n * size) = xs)
theorem Mid.of_own {w : World} {base e size n : Nat} {v : Value} {xs : List Value} (h : w.ownsRow base e size v n xs) : Mid w base e size v n xs := by
  refine ⟨h.1, ?_⟩
  rcases h.2 with h2 | ⟨g, cap, cur, h3, h4, h5, h6, h7, h8, h9⟩
  · exact .inl h2
  · exact .inr ⟨g, 0, cap, cur, h3, h4, h5, h6, h7, by omega, by simpa using h9⟩
theorem Mid.form {w : World} {base e size n : Nat} {v : Value} {xs : List Value} (h : Mid w base e size v n xs) : ∃ A c, v = .slice A n c ∧ Sl w size A n c xs := by
  rcases h.2 with ⟨rfl, rfl⟩ | ⟨g, off, cap, cur, rfl, hb, hg, hnc, hcm, hcs, ht⟩
  · exact ⟨none, 0, rfl, h.1, Nat.le_refl _, Nat.zero_le _, fun h0 => by have := h.1; omega⟩
  · refine ⟨_, _, rfl, h.1, hnc, hcm, fun _ => ⟨g, off, rfl, fun i hi => ?_⟩⟩
    rw [cell_of_row w g (off + i) cur e (0, 0) hg, ← ht, List.getElem?_take, if_pos (by have := h.1; omega), List.getElem?_drop]
    simp
theorem Mid.sl {w : World} {base e size n : Nat} {A : Option Addr} {c : Nat} {xs : List Value} (h : Mid w base e size (.slice A n c) n xs) : Sl w size A n c xs := by
  obtain ⟨a, c', h1, h2⟩ := h.form
  cases h1
  exact h2
theorem Mid.block {w w' : World} {base e size n : Nat} {v : Value} {xs : List Value} (h : Mid w base e size v n xs) (hb : ∀ g o, base ≤ g → w.heap[g]? = some o → (∃ cs, o = .cells cs e (0, 0)) → v.ownBlock = some g → w'.heap[g]? = some o) : Mid w' base e size v n xs := by
  refine ⟨h.1, ?_⟩
  rcases h.2 with h2 | ⟨g, off, cap, cur, rfl, h4, h5, h6⟩
  · exact .inl h2
  · exact .inr ⟨g, off, cap, cur, rfl, h4, hb g _ h4 h5 ⟨_, rfl⟩ rfl, h6⟩
theorem Mid.keep {w w' : World} {base e size n : Nat} {v : Value} {xs : List Value} (h : Mid w base e size v n xs) (hb : Below w.heap.size w w') : Mid w' base e size v n xs := h.block fun _ _ _ ho _ _ => keep0 ho hb
theorem Mid.drewN {w : World} {base e size n : Nat} {v : Value} {xs : List Value} (h : Mid w base e size v n xs) (k : Nat) : Mid (w.drewN k) base e size v n xs := h
theorem Mid.mono {w : World} {base b' e size n : Nat} {v : Value} {xs : List Value} (h : Mid w base e size v n xs) (hb : b' ≤ base) : Mid w b' e size v n xs := by
  refine ⟨h.1, ?_⟩
  rcases h.2 with h2 | ⟨g, off, cap, cur, h3, h4, h5⟩
  · exact .inl h2
  · exact .inr ⟨g, off, cap, cur, h3, Nat.le_trans hb h4, h5⟩
theorem Mid.setOther {w : World} {base e size n B t : Nat} {v : Value} {xs : List Value} {cs : Array Value} (h : Mid w base e size v n xs) (hB : w.heap[B]? = some (.cells cs t (0, 0))) (hne : e ≠ t) (i : Nat) (u : Value) : Mid (w.setCell ⟨B, i, none⟩ u) base e size v n xs :=
  h.block fun g o _ ho ⟨cs', he⟩ _ => (Below.heap_setCell _ _ _ _ (fun (e2 : g = B) => by
    subst e2
    rw [ho, he] at hB
    injection hB with hB
    injection hB with _ ht
    exact hne ht)).trans ho
theorem Mid.only {w w' : World} {base e size n B t : Nat} {v : Value} {xs : List Value} {cs : Array Value} (h : Mid w base e size v n xs) (hB : w.heap[B]? = some (.cells cs t (0, 0))) (hne : e ≠ t) (hk : ∀ g, g ≠ B → g < w.heap.size → w'.heap[g]? = w.heap[g]?) : Mid w' base e size v n xs :=
  h.block fun g o _ ho ⟨cs', he⟩ _ => (hk g (fun e2 => by
    subst e2
    rw [ho, he] at hB
    injection hB with hB
    injection hB with _ ht
    exact hne ht) (lt_of_block ho)).trans ho
theorem Mid.drop {w : World} {base e size n : Nat} {A : Option Addr} {c : Nat} {xs : List Value} (h : Mid w base e size (.slice A n c) n xs) (k : Nat) (hk : k ≤ n) : Mid w base e size (.slice (dropA A c k size) (n - k) (c - k)) (n - k) (xs.drop (k * size)) := by
  have hl : (xs.drop (k * size)).length = (n - k) * size := by rw [List.length_drop, h.1, Nat.sub_mul]
  refine ⟨hl, ?_⟩
  rcases h.2 with ⟨h1, rfl⟩ | ⟨g, off, cap, cur, h1, h4, h5, h6, h7, h8, h9⟩
  · cases h1
    obtain rfl : k = 0 := by omega
    exact .inl ⟨by simp [dropA], rfl⟩
  · cases h1
    by_cases hc : c = k
    · refine .inr ⟨g, off, 0, cur, by rw [dropA, if_pos hc, hc, Nat.sub_self], h4, h5, by omega, Nat.zero_le _, by omega, ?_⟩
      have h0 : n - k = 0 := by omega
      rw [h0, Nat.zero_mul, List.take_zero]
      rw [h0, Nat.zero_mul] at hl
      exact (List.eq_nil_of_length_eq_zero hl).symm
    · have hm : k * size + (n - k) * size = n * size := by rw [← Nat.add_mul, show k + (n - k) = n by omega]
      have hm2 : k * size + (c - k) * size = c * size := by rw [← Nat.add_mul, show k + (c - k) = c by omega]
      refine .inr ⟨g, off + k * size, c - k, cur, by rw [dropA, if_neg hc]; simp [add_none], h4, h5, by omega, by omega, by omega, ?_⟩
      rw [← h9, List.drop_take, List.drop_drop]
      congr 1
      omega

theorem setCells_row {g : Nat} {e : TypeId} : ∀ (vs : List Value) (o : Nat) (w : World) (cur : Array Value), w.heap[g]? = some (.cells cur e (0, 0)) → ∃ cur' : Array Value, (w.setCells g o vs).heap[g]? = some (.cells cur' e (0, 0)) ∧ cur'.size = cur.size ∧ (∀ i, i < o ∨ o + vs.length ≤ i → cur'[i]? = cur[i]?) ∧ ∀ j, j < vs.length → o + j < cur.size → cur'[o + j]? = vs[j]?
  | [], o, w, cur, h => ⟨cur, h, rfl, fun _ _ => rfl, fun j hj => by simp at hj⟩
  | v :: r, o, w, cur, h => by
    obtain ⟨cur', h1, h2, h3, h4⟩ := setCells_row r (o + 1) (w.setCell ⟨g, o, none⟩ v) _ (heap_setCell_same w g o cur e v h)
    refine ⟨cur', h1, by simpa using h2, fun i hi => ?_, fun j hj hjs => ?_⟩
    · simp only [List.length_cons] at hi
      rw [h3 i (by omega), Array.getElem?_setIfInBounds_ne (by omega)]
    · cases j with
      | zero =>
        rw [Nat.add_zero, h3 o (by omega), Array.getElem?_setIfInBounds_self_of_lt (by omega)]
        rfl
      | succ j =>
        have := h4 j (by simpa using hj) (by simp; omega)
        rw [show o + (j + 1) = o + 1 + j by omega, this]
        simp

theorem append_mid {P : Program} {w : World} {t ty e : TypeId} {z : Value} {size bytes : Nat} (ht : P.underlying t = some (.slice e)) (hinf : (P.info? e).map (fun i => (i.zero, i.size, i.bytes)) = some (some z, size, bytes)) (hzs : z.cells.size = size) (hsz : 0 < size)
    {base n m c : Nat} {v : Value} {xs news : List Value} {A : Option Addr} (h : Mid w base e size v n xs) (hx : Sl w size A m c news) (h1 : ∀ u ∈ news, u.oneCell' = true)
    (h63 : n + m ≤ maxLen) (hbytes : (n + m) * bytes ≤ 140737488355328) (hbase : base ≤ w.heap.size) :
    ∃ v' w', (Builtin.append_ #[t, t] ty #[v, .slice A m c]).run P w = .ok v' w' ∧ Mid w' base e size v' (n + m) (xs ++ news) ∧ Below base w w' ∧ (∀ g, g < w.heap.size → v.ownBlock ≠ some g → w'.heap[g]? = w.heap[g]?) := by
  obtain ⟨i, hi, hz, hsize, hby⟩ := info_parts hinf
  rcases A with _ | ad
  · have h0 : news = [] := by
      rcases Nat.eq_zero_or_pos news.length with h0 | h0
      · exact List.eq_nil_of_length_eq_zero h0
      · obtain ⟨b, off, ha, _⟩ := hx.2.2.2 h0
        cases ha
    subst h0
    have hm : m = 0 := by
      have := hx.1
      simp only [List.length_nil] at this
      rcases Nat.mul_eq_zero.1 this.symm with h | h
      · exact h
      · omega
    subst hm
    refine ⟨v, w, ?_, by simpa using h, Below.refl _ _, fun _ _ _ => rfl⟩
    rcases h.2 with ⟨rfl, rfl⟩ | ⟨g, off, cap, cur, rfl, _, _, hnc, _⟩
    · simp [Builtin.append_, run_underlying ht, sizeOf, typeInfo, hi, Builtin.lenOf, Builtin.firstCells]
    · simp [Builtin.append_, run_underlying ht, sizeOf, typeInfo, hi, Builtin.lenOf, Builtin.firstCells, hnc, storeCells]
  · have hnews : ∀ j u, news[j]? = some u → w.cell? (ad.add j) = some u := by
      intro j u hj
      have hjl := (List.getElem?_eq_some_iff.1 hj).1
      obtain ⟨b, off, ha, hc⟩ := hx.2.2.2 (by omega)
      cases ha
      rw [add_none, hc j hjl, hj]
    rcases h.2 with ⟨rfl, rfl⟩ | ⟨g, off, cap, cur, rfl, hbg, hg, hnc, hcm, hcs, htake⟩
    · have h00 : xs = [] := List.eq_nil_of_length_eq_zero (by simpa using h.1)
      subst h00
      obtain ⟨v', w', hr, h2, h3, _⟩ := run_append_own (P := P) w base t ty e i z size bytes ht hi hz hsize hby hzs hsz _ 0 [] (World.ownsRow_nil w base e size) ad m c news hx.1 hnews h1 h63 hbytes hbase
      exact ⟨v', w', hr, Mid.of_own h2, below_grown (Below.refl _ _) (World.ownsRow_nil w base e size) h3 hbase, fun g hg hne => h3.block g hg fun e => hne e.symm⟩
    · have hlen : (xs ++ news).length = (n + m) * size := by rw [List.length_append, h.1, hx.1, Nat.add_mul]
      by_cases hroom : n + m ≤ cap
      · have hmul : (n + m) * size ≤ cap * size := Nat.mul_le_mul_right _ hroom
        rw [Nat.add_mul] at hmul
        have hf := run_firstCells_some (P := P) w size m ad m c news hx.1 hnews
        have hcell : ∀ j, j < news.length → (w.cell? ⟨g, off + n * size + j, none⟩).isSome = true := fun j hj => by
          have := hx.1
          rw [cell_of_row w g _ cur e (0, 0) hg, Array.getElem?_eq_getElem (by omega)]
          rfl
        have hfr : ∀ j, j < news.length → w.frozen? ⟨g, off + n * size + j, none⟩ = false := fun j _ => frozen_of_row w g _ cur e hg
        have hst := run_storeCells_cells (P := P) g (off + n * size) news 0 w (by simpa using hcell) (by simpa using hfr) h1
        simp only [Nat.add_zero] at hst
        obtain ⟨cur', k1, k2, k3, k4⟩ := setCells_row news (off + n * size) w cur hg
        refine ⟨.slice (some ⟨g, off, none⟩) (n + m) cap, w.setCells g (off + n * size) news, ?_, ⟨hlen, .inr ⟨g, off, cap, cur', rfl, hbg, k1, hroom, hcm, by omega, ?_⟩⟩, ?_, ?_⟩
        · subst hsize
          simp [Builtin.append_, run_underlying ht, sizeOf, typeInfo, hi, Builtin.lenOf, hroom, hf, add_none, hst]
        · have hxl := h.1
          have hnl := hx.1
          apply List.ext_getElem?
          intro j
          rw [List.getElem?_take, List.getElem?_drop, Nat.add_mul]
          by_cases hj1 : j < n * size
          · rw [if_pos (by omega), List.getElem?_append_left (by omega), ← htake, List.getElem?_take, if_pos hj1, List.getElem?_drop]
            have := k3 (off + j) (by omega)
            simpa using this
          · rw [List.getElem?_append_right (by omega), hxl]
            by_cases hj2 : j < n * size + m * size
            · rw [if_pos hj2]
              have := k4 (j - n * size) (by omega) (by omega)
              rw [show off + n * size + (j - n * size) = off + j by omega] at this
              simpa using this
            · rw [if_neg hj2, List.getElem?_eq_none (by omega)]
        · have : ∀ (vs : List Value) (o : Nat) (w0 : World), Below base w w0 → Below base w (w0.setCells g o vs) := by
            intro vs
            induction vs with
            | nil => intro o w0 h; exact h
            | cons v r ih => intro o w0 h; exact ih (o + 1) _ (h.setCell (p := ⟨g, o, none⟩) hbg v)
          exact this _ _ _ (Below.refl _ _)
        · intro j hj hne
          have hjg : j ≠ g := fun e => hne (by rw [e]; rfl)
          have : ∀ (vs : List Value) (o : Nat) (w0 : World), (w0.setCells g o vs).heap[j]? = w0.heap[j]? := by
            intro vs
            induction vs with
            | nil => intro o w0; rfl
            | cons v r ih => intro o w0; rw [World.setCells, ih, Below.heap_setCell _ _ _ _ hjg]
          exact this _ _ _
      · have holds : ∀ j u, xs[j]? = some u → w.cell? ((⟨g, off, none⟩ : Addr).add j) = some u := fun j u hj => by
          rw [← htake, List.getElem?_take] at hj
          split at hj
          · rw [List.getElem?_drop] at hj
            rw [add_none, cell_of_row w g _ cur e (0, 0) hg]
            simpa using hj
          · cases hj
        subst hsize
        subst hby
        have hsmall : n + m ≤ 9223372036854775807 := by simp only [maxLen] at h63; omega
        have hr := run_append_grow (P := P) w t ty e i z ht hi hz ⟨g, off, none⟩ n cap xs h.1 holds ad m c news hx.1 hnews (by omega) (by omega) (growslice_fits (by omega) hbytes)
        have hge := grownCap_ge w (n + m) cap e
        have hgm : grownCap w (n + m) cap e ≤ maxLen := grownCap_le_maxLen w (n + m) cap e h63
        refine ⟨_, _, hr, Mid.of_own ⟨hlen, .inr ⟨w.heap.size, _, _, rfl, hbase, heap_alloc_new w.drew _, hge, hgm, ?_, ?_⟩⟩, ?_, fun k hk _ => Below.heap_alloc w.drew _ k hk⟩
        · simp only [Array.size_append, List.size_toArray, size_zeroCells, hzs, h.1, hx.1, ← Nat.add_mul]
          congr 1
          omega
        · simp only [Array.toList_append, List.append_assoc]
          rw [← List.append_assoc, ← hlen]
          exact List.take_left
        · exact (below_drew (Below.refl _ _)).alloc hbase _
theorem wpList_append_mid {P : Program} {W w : World} {ops : Array Oper} {rest : List Oper} {o : Oper} {a : Act} {Q : Exit → Act → World → Prop} (hgd : o.guard = none) (s x : Operand) (t : TypeId) (ho : o.op = .call { callee := .builtin .append, args := #[s, x], argTypes := #[t, t] })
    (base : Nat) (e : TypeId) {z : Value} {size bytes : Nat} (ht : P.underlying t = some (.slice e)) (hinf : (P.info? e).map (fun i => (i.zero, i.size, i.bytes)) = some (some z, size, bytes)) (hzs : z.cells.size = size) (hsz : 0 < size)
    {v : Value} {n : Nat} {xs : List Value} (hs : a.eval s = v) (hown : Mid w base e size v n xs)
    {A : Option Addr} {m c : Nat} {news : List Value} (hx : a.eval x = .slice A m c) (hsl : Sl w size A m c news) (h1 : ∀ u ∈ news, u.oneCell' = true)
    (h63 : n + m ≤ maxLen) (hbytes : (n + m) * bytes ≤ 140737488355328) (hbase : base ≤ w.heap.size) (hb : Below base W w)
    (h : ∀ v' w', Mid w' base e size v' (n + m) (xs ++ news) → Below base W w' → w.heap.size ≤ w'.heap.size → (∀ g, g < w.heap.size → v.ownBlock ≠ some g → w'.heap[g]? = w.heap[g]?) → wpList P ops Q rest (a.put o.dst v') w') : wpList P ops Q (o :: rest) a w := by
  obtain ⟨v', w', hr, h2, h3, h4⟩ := append_mid (ty := o.type) ht hinf hzs hsz hown hsl h1 h63 hbytes hbase
  refine wpList_plain hgd fun K hK => ?_
  unfold Oper.wp execOp
  simp only [ho, resolve, invoke, builtin, Sem.run_bind, Sem.run_pure, Result.andThen_ok, List.map_toArray, List.map_cons, List.map_nil, hs, hx, hr]
  exact hK _ _ (h v' w' h2 (hb.trans h3) h3.size h4)
end Go.Proofs.YtgakobolhmdnnaaGreat

namespace Go.Proofs.YtgakobolhmdnnaaGreat
open Go.RowKit
set_option linter.unusedVariables false
set_option linter.unusedSimpArgs false

/-- Block T is a tape with these draws, which lie in block G, up to E. -/
def InG (A : Option Addr) (c : Nat) (G : Option Nat) (E : Nat) : Prop := (A = none ∧ c = 0 ∧ G = none) ∨ ∃ g off, G = some g ∧ A = some ⟨g, off, none⟩ ∧ off + c ≤ E
def TapeG (w : World) (T : Nat) (G : Option Nat) (E : Nat) (l : List Nat) : Prop := ∃ A c, w.heap[T]? = some (.cells #[.slice A l.length c] 62 (0, 0)) ∧ Sl w 1 A l.length c (ucells l) ∧ InG A c G E

set_option maxRecDepth 20000 in
theorem tnextG (T : Nat) (G : Option Nat) (E : Nat) (l : List Nat) (W : World) (h : TapeG W T G E l) (hl : l.length ≤ 9223372036854775807) :
    Calls Tryz.prog 63 #[.pointer (some ⟨T, 0, none⟩)] W fun e w' => e = .returned (.int .u64 (l.headD 0 : Nat)) ∧ TapeG w' T G E l.tail ∧ Only T W w' := by
  have H := hid h
  obtain ⟨A, c, hT, hs, hN⟩ := h
  have hc := cell_of_row W T 0 _ _ _ hT
  have hf := frozen_of_row W T 0 _ _ hT
  simp at hc
  rcases l with _ | ⟨x, r⟩
  · clear hs hT
    go_enter Tryz.func63, Tryz.ntmps63
    go_wp2
    go_ret
    exact ⟨rfl, H.out, Only.refl _ _⟩
  · have hcap : (x :: r).length ≤ c := hs.2.1
    obtain ⟨b, off, rfl, hc0⟩ := Sl.at hs 0 (by simp [ucells])
    obtain ⟨g, off', rfl, hA', hE'⟩ : ∃ g off', G = some g ∧ (some ⟨b, off, none⟩ : Option Addr) = some ⟨g, off', none⟩ ∧ off' + c ≤ E := by
      rcases hN with ⟨h9, _⟩ | h9
      · cases h9
      · exact h9
    cases hA'
    clear hN
    have HBN := hid hE'
    clear hE'
    simp [ucells] at hc0
    have HD := hid (hs.drop 1 (by simp))
    have hrun : ∀ w : World, (Instr.slice 30 (.slice (some ⟨b, off, none⟩) (x :: r).length c) (some (.int .i64 1)) none none).run Tryz.prog w = .ok (.slice (dropA (some ⟨b, off, none⟩) c 1 1) ((x :: r).length - 1) (c - 1)) w := fun w => by
      have := run_from Tryz.underlying30 info_u64w (some ⟨b, off, none⟩) (x :: r).length c 1 (by simp) w
      simpa using this
    have HT := hid hT
    have hlen : (x :: r).length = r.length + 1 := rfl
    rw [hlen] at hrun hc HT HD hl
    have hp : (0 : Int) < ((r.length + 1 : Nat) : Int) := by omega
    have hne : (((r.length + 1 : Nat) : Int) == 0) = false := by simp; omega
    generalize hnn : r.length + 1 = n at *
    have HN := hid hnn
    have HC := hid hcap
    clear hnn
    clear hs hT hcap H hlen
    go_enter Tryz.func63, Tryz.ntmps63
    go_wp2
    go_ret
    have hn := HN.out
    have e1 : n - 1 = r.length := by omega
    have h2 := HD.out
    have h3 := heap_setCell_same W T 0 _ _ (.slice (dropA (some ⟨b, off, none⟩) c 1 1) (n - 1) (c - 1)) HT.out
    rw [e1] at h2 h3 ⊢
    refine ⟨rfl, ⟨_, _, by simpa using h3, ?_, ?_⟩, (Only.refl _ _).set 0 _⟩
    · exact sl_apart (by simpa [ucells] using h2) HT.out (fun n => by simp) _
    · have hcc := HC.out
      have hbb := HBN.out
      simp only [List.length_cons] at hcc
      rw [dropA]
      split
      · exact .inr ⟨b, off, rfl, by simp, by omega⟩
      · exact .inr ⟨b, off + 1, rfl, by simp [add_none], by omega⟩

set_option maxRecDepth 20000 in
theorem tbelowG (T : Nat) (G : Option Nat) (E : Nat) (l : List Nat) (n : Int) (W : World) (h : TapeG W T G E l) (hl : l.length ≤ 9223372036854775807) (hu : ∀ x ∈ l, x < 18446744073709551616) (hn : n ≤ 9223372036854775807) :
    Calls Tryz.prog 45 #[.pointer (some ⟨T, 0, none⟩), .int .i64 n] W fun e w' => e = .returned (.int .i64 (blw n l : Nat)) ∧ TapeG w' T G E (if n < 1 then l else l.tail) ∧ Only T W w' := by
  have H := hid h
  have HX := hid (tnextG T G E l W h hl)
  clear h
  by_cases h1 : n < 1
  · have hb : blw n l = 0 := by rw [blw, if_pos h1]
    rw [hb, if_pos h1]
    clear hb HX hu
    go_enter Tryz.func45, Tryz.ntmps45
    go_wp2
    go_ret
    exact ⟨rfl, H.out, Only.refl _ _⟩
  · obtain ⟨m, rfl⟩ : ∃ m : Nat, n = (m : Int) := ⟨n.toNat, by omega⟩
    have hb : blw (m : Int) l = l.headD 0 % m := by rw [blw, if_neg h1, Int.toNat_natCast]
    have hx : l.headD 0 < 18446744073709551616 := by
      cases l with
      | nil => simp
      | cons x r => exact hu x (by simp)
    have hm : (1 : Int) ≤ (m : Int) := by omega
    have hmod := Nat.mod_lt (l.headD 0) (show 0 < m by omega)
    have hz : ((m : Int) == 0) = false := by rw [beq_eq_false_iff_ne]; omega
    rw [hb, if_neg h1]
    generalize l.headD 0 = x at *
    clear hu hb h1
    have hq : ((x : Int) % (m : Int)) = ((x % m : Nat) : Int) := rfl
    have hq2 : ((x : Int).tmod (m : Int)) = ((x % m : Nat) : Int) := rfl
    generalize x % m = y at *
    go_enter Tryz.func45, Tryz.ntmps45
    go_wp2_with fail
    refine HX.out.mono ?_
    rintro e w1 ⟨rfl, hT, hO⟩
    have HT := hid hT
    have HO := hid hO
    clear hT hO HX
    go_wp2
    go_ret
    exact ⟨rfl, HT.out, HO.out⟩
end Go.Proofs.YtgakobolhmdnnaaGreat

namespace Go.Proofs.YtgakobolhmdnnaaGreat
open Go.RowKit
set_option linter.unusedVariables false
set_option linter.unusedSimpArgs false

set_option maxRecDepth 20000 in
theorem take_any (R s : Nat) (k : Int) (W : World) (h : W.heap[R]? = some (.cells #[.int .u64 (s : Int)] 89 (0, 0))) (hs : s < 18446744073709551616) (hk : -9223372036854775808 ≤ k ∧ k ≤ 9223372036854775807) :
    Calls Tryz.prog 44 #[.pointer (some ⟨R, 0, none⟩), .int .i64 k] W fun e w' => e = .returned (.int .i64 (nthS s k)) ∧ w'.heap[R]? = some (.cells #[.int .u64 (lessS s (nthS s k) : Nat)] 89 (0, 0)) ∧ Only R W w' := by
  have HN := hid (fun w => nth_any s hs k hk w)
  have HL := hid (fun x w => less_any s x w hs)
  have H := hid h
  have hc := cell_of_row W R 0 _ _ _ h
  have hf := frozen_of_row W R 0 _ _ h
  simp at hc
  clear h hs hk
  generalize nthS s k = x at *
  go_enter Tryz.func44, Tryz.ntmps44
  go_wp2_with fail
  refine (HN.out _).mono ?_
  rintro e w1 ⟨rfl, hb1⟩
  have h1 := keep0 H.out hb1
  have hc1 := cell_of_row w1 R 0 _ _ _ h1
  have hf1 := frozen_of_row w1 R 0 _ _ h1
  simp at hc1
  have H1 := hid h1
  have HB1 := hid hb1
  clear h1 hb1 HN H hc hf
  go_wp2_with (go_at_call 62; refine (HL.out _ _).mono ?_; rintro e w' ⟨rfl, rfl⟩)
  go_ret
  exact ⟨rfl, by simpa using heap_setCell_same w1 R 0 _ _ (.int .u64 (lessS s x : Nat)) H1.out, (Only.of_below HB1.out).set 0 _⟩

theorem TapeAt.low {w w' : World} {T N B : Nat} {l : List Nat} (h : TapeAt w T N l) (hb : Below B w w') (hT : T < B) (hN : N ≤ B) : TapeAt w' T N l := by
  obtain ⟨A, c, h1, h2, h3⟩ := h
  refine ⟨A, c, (hb.block T hT).trans h1, ⟨h2.1, h2.2.1, h2.2.2.1, fun h0 => ?_⟩, h3⟩
  obtain ⟨b, off, ha, hc⟩ := h2.2.2.2 h0
  obtain ⟨b', off', ha', hbN⟩ := h3 (by rw [← ucells_length]; exact h0)
  rw [ha] at ha'
  cases ha'
  refine ⟨b, off, ha, fun i hi => ?_⟩
  rw [World.cell?_of_block (hb.block b (by omega)), hc i hi]
/-- What Some holds at its loop's head. -/
structure SmAt (W w : World) (T R N m : Nat) (l0 : List Nat) (e0 : List Int) (k : Nat) (v : Value) (l : List Nat) (s : Nat) (acc : List Int) : Prop where
  t : TapeAt w T N l
  r : w.heap[R]? = some (.cells #[.int .u64 (s : Int)] 89 (0, 0))
  hs : s < 18446744073709551616
  pk : PkAt m l0 e0 k l (elems s) acc
  o : w.ownsRow W.heap.size 3 1 v k (icells .i64 acc)
  lu : ∀ x ∈ l, x < 18446744073709551616
  ll : l.length ≤ 1000
  only : Only T W w
  tr : T ≠ R
  hR : N ≤ R
  hW : W.heap.size ≤ R
  hT : T < W.heap.size
theorem SmAt.len {W w : World} {T R N m : Nat} {l0 : List Nat} {e0 : List Int} {k : Nat} {v : Value} {l : List Nat} {s : Nat} {acc : List Int} (h : SmAt W w T R N m l0 e0 k v l s acc) : (elems s).length + k = e0.length := by
  have := h.pk
  unfold PkAt at this
  exact this.2.2.2
/-- Rows of ints stay where a block of another type is stored into. -/
theorem own_only {w w' : World} {base e s n R t : Nat} {v : Value} {xs : List Value} {cs : Array Value} (h : w.ownsRow base e s v n xs) (ho : Only R w w') (hR : w.heap[R]? = some (.cells cs t (0, 0))) (hne : e ≠ t) : w'.ownsRow base e s v n xs := by
  refine ⟨h.1, ?_⟩
  rcases h.2 with h2 | ⟨g, cap, cur, h3, h4, h5, h6⟩
  · exact .inl h2
  · refine .inr ⟨g, cap, cur, h3, h4, ?_, h6⟩
    refine ho.block h5 ?_
    rintro rfl
    rw [h5] at hR
    injection hR with hR
    injection hR with _ ht
    exact hne ht

set_option maxRecDepth 20000 in
set_option maxHeartbeats 1000000 in
theorem some_any (T N : Nat) (l : List Nat) (s : Nat) (k : Int) (W : World) (h : TapeAt W T N l) (hNW : N ≤ W.heap.size) (hl : l.length ≤ 1000) (hu : ∀ x ∈ l, x < 18446744073709551616) (hs : s < 18446744073709551616) (hk : k ≤ 9223372036854775807) :
    Calls Tryz.prog 28 #[.pointer (some ⟨T, 0, none⟩), .int .u64 (s : Int), .int .i64 k] W fun e w' => ∃ v, e = .returned v ∧ w'.ownsRow W.heap.size 3 1 v (pk k.toNat l (elems s)).1.length (icells .i64 (pk k.toNat l (elems s)).1) ∧ TapeAt w' T N (pk k.toNat l (elems s)).2 ∧ Only T W w' := by
  have HC := hid (fun w => count_any s w hs)
  have hn64 : (elems s).length ≤ 64 := by rw [elems_def]; exact elemsU_len s 64
  obtain ⟨n, hn⟩ : ∃ n, (elems s).length = n := ⟨_, rfl⟩
  rw [hn] at HC hn64
  have HNN := hid hn
  have HT := hid h
  have HL := hid hl
  have HU := hid hu
  have HS := hid hs
  have HW := hid hNW
  have hTW := h.lt
  have HTW := hid hTW
  clear hn h hl hu hs hNW hTW
  have hn2 : (n : Int) ≤ 64 := by omega
  go_enter Tryz.func28, Tryz.ntmps28
  go_wp2_with (go_at_call 43; refine (HC.out _).mono ?_; rintro e w' ⟨rfl, rfl⟩)
  generalize hq : min (n : Int) k = q
  have HQ := hid hq
  have hq2 : q ≤ 64 := by omega
  clear hq HC
  obtain ⟨m, hm⟩ : ∃ m : Nat, k.toNat = m := ⟨_, rfl⟩
  have HMM := hid hm
  clear hm
  go_loopw [9, 20] (fun v i wr => ∃ (j : Nat) (l' : List Nat) (s' : Nat) (acc : List Int), j ≤ 64 ∧ i = .int .i64 (j : Int) ∧ Hid (SmAt W wr T W.heap.size N m l (elems s) j v l' s' acc)) (fun _ i _ => 64 - (intOf i).toNat)
  case atStart =>
    refine ⟨0, l, s, [], by omega, rfl, ⟨?_, heap_alloc_new _ _, HS.out, PkAt.start _ _ _, World.ownsRow_nil _ _ _ _, HU.out, HL.out, Only.of_below ((Below.refl _ _).alloc (Nat.le_refl _) _), ?_, HW.out, Nat.le_refl _, HTW.out⟩⟩
    · exact HT.out.below ((Below.refl _ _).alloc (Nat.le_refl _) _)
    · have := HTW.out; omega
  case round =>
    obtain ⟨j, l', s', acc, hj, rfl, HM⟩ := hrel
    have hlen := HM.out.len
    rw [HNN.out] at hlen
    by_cases hlt : (j : Int) < q
    · obtain ⟨d, hd⟩ : ∃ d : Nat, d = n - j := ⟨_, rfl⟩
      have hjn : (j : Int) < (n : Int) := by have := HQ.out; omega
      have hd2 : ((n : Int) - (j : Int)) = (d : Int) := by omega
      have hed : (elems s').length = d := by omega
      have hd0 : d ≠ 0 := by omega
      have HB := hid (tbelow_any T N l' (d : Int) wr HM.out.t (by have := HM.out.ll; omega) HM.out.lu (by omega))
      have hnl : ¬ (d : Int) < 1 := by omega
      rw [if_neg hnl, blw, if_neg hnl, Int.toNat_natCast] at HB
      have hi := idx_lt l' (elems s') (by omega)
      have HX := hid (nthS_at s' _ hi)
      have HE := hid (elems_without s' _ HM.out.hs hi)
      have HP := hid (HM.out.pk.next (by have := HQ.out; have := HMM.out; omega) (by omega))
      rw [hed] at HX HE HP
      generalize hii : l'.headD 0 % d = ii at HB HX HE HP
      have HII := hid hii
      have hil : ii < d := by rw [← hii]; exact Nat.mod_lt _ (by omega)
      clear hi hii hnl hd hed hd0
      rw [← HX.out.1] at HP
      generalize hxx : nthS s' (ii : Int) = xx at HX HE HP
      have HXX := hid hxx
      clear hxx
      have hj64 : j < 64 := by omega
      go_wp2_with fail
      refine HB.out.mono ?_
      rintro e w1 ⟨rfl, hT1, hO1⟩
      have h1 := hO1.block HM.out.r (fun e => HM.out.tr e.symm)
      have HTK := hid (take_any W.heap.size s' (ii : Int) w1 h1 HM.out.hs (by omega))
      rw [HXX.out] at HTK
      obtain ⟨A8, c8, hT8, _⟩ := HM.out.t
      have HO1 := hid (own_only HM.out.o hO1 hT8 (by decide))
      clear hT8
      have HT1 := hid hT1
      have HOn1 := hid (HM.out.only.trans hO1)
      have HR1 := hid h1
      clear h1 hT1 hO1 HB
      go_wp2_with fail
      refine HTK.out.mono ?_
      rintro e w2 ⟨rfl, hR2, hO2⟩
      have HT2 := hid (HT1.out.only hO2 HM.out.hR HM.out.tr)
      have HO2 := hid (own_only HO1.out hO2 HR1.out (by decide))
      have HR2 := hid hR2
      have HOn2 := hid (HOn1.out.grow (hO2.below W.heap.size HM.out.hW HOn1.out.size))
      have hsz2 : W.heap.size ≤ w2.heap.size := HOn2.out.size
      clear hR2 hO2 HTK HO1 HT1 HR1 HOn1
      go_wp2_with (at_builtin; refine wpList_append_1k (W := w2) rfl (.tmp 23) (.tmp 31) 26 rfl W.heap.size 3 Tryz.underlying26 info_int rfl (by omega) rfl HO2.out rfl rfl (by simp; rfl) ?c1 ?c2 hsz2 (Below.refl _ _) ?_)
      case c1 => unfold maxLen; omega
      case c2 => omega
      · intro v' w' h2 h3 h4 h5
        have HSM : Hid (SmAt W w' T W.heap.size N m l (elems s) (j + 1) v' l'.tail (lessS s' xx) (acc ++ [xx])) := hid (by
          refine ⟨HT2.out.low h3 HM.out.hT HW.out, ?_, lessS_lt _ _ HM.out.hs, ?_, by rw [icells_append]; exact h2, fun x hx => HM.out.lu x (List.mem_of_mem_tail hx), ?_, HOn2.out.grow h3, HM.out.tr, HM.out.hR, HM.out.hW, HM.out.hT⟩
          · rw [h5 W.heap.size (Nat.le_refl _) (lt_of_block HR2.out) (own_blk_ne HO2.out HR2.out (by decide))]
            exact HR2.out
          · rw [HE.out]
            exact HP.out
          · have := HM.out.ll
            rw [List.length_tail]; omega)
        clear h2 h3 h4 h5
        go_wp2
        go_roundw
        case rel => exact ⟨j + 1, l'.tail, lessS s' xx, acc ++ [xx], by omega, by go_num, HSM.out⟩
        case measure => simp [intOf]; omega
    · have HST := hid (HM.out.pk.stop (by have := HQ.out; have := HMM.out; omega))
      obtain ⟨A9, c9, rfl, _⟩ := Sl.of_own HM.out.o
      go_wp2
      go_ret
      obtain rfl := HMM.out
      rw [HST.out]
      have hal : acc.length = j := by have := HM.out.pk; unfold PkAt at this; exact this.2.2.1
      rw [hal]
      exact ⟨_, rfl, HM.out.o, HM.out.t, HM.out.only⟩
end Go.Proofs.YtgakobolhmdnnaaGreat

namespace Go.Proofs.YtgakobolhmdnnaaGreat
open Go.RowKit
set_option linter.unusedVariables false
set_option linter.unusedSimpArgs false

theorem TapeG.lt {w : World} {T : Nat} {G : Option Nat} {E : Nat} {l : List Nat} (h : TapeG w T G E l) : T < w.heap.size := by
  obtain ⟨_, _, h, _⟩ := h
  exact lt_of_block h
theorem TapeG.below {w w' : World} {T : Nat} {G : Option Nat} {E : Nat} {l : List Nat} (h : TapeG w T G E l) (hb : Below w.heap.size w w') : TapeG w' T G E l := by
  obtain ⟨A, c, h1, h2, h3⟩ := h
  exact ⟨A, c, keep0 h1 hb, h2.below hb, h3⟩
/-- The draws' cells, where block G is as it was. -/
theorem TapeG.sl {w w' : World} {A : Option Addr} {c E : Nat} {G : Option Nat} {l : List Nat} (h2 : Sl w 1 A l.length c (ucells l)) (h3 : InG A c G E) (hk : ∀ g, G = some g → g < w.heap.size → w'.heap[g]? = w.heap[g]?) : Sl w' 1 A l.length c (ucells l) := by
  refine ⟨h2.1, h2.2.1, h2.2.2.1, fun h0 => ?_⟩
  obtain ⟨b, off, ha, hc⟩ := h2.2.2.2 h0
  have hb : G = some b := by
    rcases h3 with ⟨h9, _⟩ | ⟨g, o, h8, h9, _⟩
    · rw [h9] at ha; cases ha
    · rw [h9] at ha; cases ha; exact h8
  refine ⟨b, off, ha, fun i hi => ?_⟩
  have h4 := hc i hi
  rw [List.getElem?_eq_getElem hi] at h4 ⊢
  rw [World.cell?_of_block (hk b hb (lt_of_cell h4))]
  exact h4
theorem TapeG.only {w w' : World} {T E R : Nat} {G : Option Nat} {l : List Nat} (h : TapeG w T G E l) (ho : Only R w w') (hR : ∀ g, G = some g → g < R) (hT : T ≠ R) : TapeG w' T G E l := by
  obtain ⟨A, c, h1, h2, h3⟩ := h
  exact ⟨A, c, ho.block h1 hT, TapeG.sl h2 h3 (fun g hg hl => ho.keep g (by have := hR g hg; omega) hl), h3⟩
theorem TapeG.low {w w' : World} {T E B : Nat} {G : Option Nat} {l : List Nat} (h : TapeG w T G E l) (hb : Below B w w') (hT : T < B) (hN : ∀ g, G = some g → g < B) : TapeG w' T G E l := by
  obtain ⟨A, c, h1, h2, h3⟩ := h
  exact ⟨A, c, (hb.block T hT).trans h1, TapeG.sl h2 h3 (fun g hg hl => hb.block g (hN g hg)), h3⟩

/-- What Some holds at its loop's head. -/
structure SmG (W w : World) (T R : Nat) (G : Option Nat) (E m : Nat) (l0 : List Nat) (e0 : List Int) (k : Nat) (v : Value) (l : List Nat) (s : Nat) (acc : List Int) : Prop where
  t : TapeG w T G E l
  r : w.heap[R]? = some (.cells #[.int .u64 (s : Int)] 89 (0, 0))
  hs : s < 18446744073709551616
  pk : PkAt m l0 e0 k l (elems s) acc
  o : w.ownsRow W.heap.size 3 1 v k (icells .i64 acc)
  lu : ∀ x ∈ l, x < 18446744073709551616
  ll : l.length ≤ 1000
  only : Only T W w
  tr : T ≠ R
  hR : ∀ g, G = some g → g < R
  hW : W.heap.size ≤ R
  hT : T < W.heap.size
theorem SmG.len {W w : World} {T R E m : Nat} {G : Option Nat} {l0 : List Nat} {e0 : List Int} {k : Nat} {v : Value} {l : List Nat} {s : Nat} {acc : List Int} (h : SmG W w T R G E m l0 e0 k v l s acc) : (elems s).length + k = e0.length := by
  have := h.pk
  unfold PkAt at this
  exact this.2.2.2
set_option maxRecDepth 20000 in
set_option maxHeartbeats 1000000 in
theorem someG (T : Nat) (G : Option Nat) (E : Nat) (l : List Nat) (s : Nat) (k : Int) (W : World) (h : TapeG W T G E l) (hNW : ∀ g, G = some g → g < W.heap.size) (hl : l.length ≤ 1000) (hu : ∀ x ∈ l, x < 18446744073709551616) (hs : s < 18446744073709551616) (hk : k ≤ 9223372036854775807) :
    Calls Tryz.prog 28 #[.pointer (some ⟨T, 0, none⟩), .int .u64 (s : Int), .int .i64 k] W fun e w' => ∃ v, e = .returned v ∧ w'.ownsRow W.heap.size 3 1 v (pk k.toNat l (elems s)).1.length (icells .i64 (pk k.toNat l (elems s)).1) ∧ TapeG w' T G E (pk k.toNat l (elems s)).2 ∧ Only T W w' := by
  have HC := hid (fun w => count_any s w hs)
  have hn64 : (elems s).length ≤ 64 := by rw [elems_def]; exact elemsU_len s 64
  obtain ⟨n, hn⟩ : ∃ n, (elems s).length = n := ⟨_, rfl⟩
  rw [hn] at HC hn64
  have HNN := hid hn
  have HT := hid h
  have HL := hid hl
  have HU := hid hu
  have HS := hid hs
  have HW := hid hNW
  have hTW := h.lt
  have HTW := hid hTW
  clear hn h hl hu hs hNW hTW
  have hn2 : (n : Int) ≤ 64 := by omega
  go_enter Tryz.func28, Tryz.ntmps28
  go_wp2_with (go_at_call 43; refine (HC.out _).mono ?_; rintro e w' ⟨rfl, rfl⟩)
  generalize hq : min (n : Int) k = q
  have HQ := hid hq
  have hq2 : q ≤ 64 := by omega
  clear hq HC
  obtain ⟨m, hm⟩ : ∃ m : Nat, k.toNat = m := ⟨_, rfl⟩
  have HMM := hid hm
  clear hm
  go_loopw [9, 20] (fun v i wr => ∃ (j : Nat) (l' : List Nat) (s' : Nat) (acc : List Int), j ≤ 64 ∧ i = .int .i64 (j : Int) ∧ Hid (SmG W wr T W.heap.size G E m l (elems s) j v l' s' acc)) (fun _ i _ => 64 - (intOf i).toNat)
  case atStart =>
    refine ⟨0, l, s, [], by omega, rfl, ⟨?_, heap_alloc_new _ _, HS.out, PkAt.start _ _ _, World.ownsRow_nil _ _ _ _, HU.out, HL.out, Only.of_below ((Below.refl _ _).alloc (Nat.le_refl _) _), ?_, HW.out, Nat.le_refl _, HTW.out⟩⟩
    · exact HT.out.below ((Below.refl _ _).alloc (Nat.le_refl _) _)
    · have := HTW.out; omega
  case round =>
    obtain ⟨j, l', s', acc, hj, rfl, HM⟩ := hrel
    have hlen := HM.out.len
    rw [HNN.out] at hlen
    by_cases hlt : (j : Int) < q
    · obtain ⟨d, hd⟩ : ∃ d : Nat, d = n - j := ⟨_, rfl⟩
      have hjn : (j : Int) < (n : Int) := by have := HQ.out; omega
      have hd2 : ((n : Int) - (j : Int)) = (d : Int) := by omega
      have hed : (elems s').length = d := by omega
      have hd0 : d ≠ 0 := by omega
      have HB := hid (tbelowG T G E l' (d : Int) wr HM.out.t (by have := HM.out.ll; omega) HM.out.lu (by omega))
      have hnl : ¬ (d : Int) < 1 := by omega
      rw [if_neg hnl, blw, if_neg hnl, Int.toNat_natCast] at HB
      have hi := idx_lt l' (elems s') (by omega)
      have HX := hid (nthS_at s' _ hi)
      have HE := hid (elems_without s' _ HM.out.hs hi)
      have HP := hid (HM.out.pk.next (by have := HQ.out; have := HMM.out; omega) (by omega))
      rw [hed] at HX HE HP
      generalize hii : l'.headD 0 % d = ii at HB HX HE HP
      have HII := hid hii
      have hil : ii < d := by rw [← hii]; exact Nat.mod_lt _ (by omega)
      clear hi hii hnl hd hed hd0
      rw [← HX.out.1] at HP
      generalize hxx : nthS s' (ii : Int) = xx at HX HE HP
      have HXX := hid hxx
      clear hxx
      have hj64 : j < 64 := by omega
      go_wp2_with fail
      refine HB.out.mono ?_
      rintro e w1 ⟨rfl, hT1, hO1⟩
      have h1 := hO1.block HM.out.r (fun e => HM.out.tr e.symm)
      have HTK := hid (take_any W.heap.size s' (ii : Int) w1 h1 HM.out.hs (by omega))
      rw [HXX.out] at HTK
      obtain ⟨A8, c8, hT8, _⟩ := HM.out.t
      have HO1 := hid (own_only HM.out.o hO1 hT8 (by decide))
      clear hT8
      have HT1 := hid hT1
      have HOn1 := hid (HM.out.only.trans hO1)
      have HR1 := hid h1
      clear h1 hT1 hO1 HB
      go_wp2_with fail
      refine HTK.out.mono ?_
      rintro e w2 ⟨rfl, hR2, hO2⟩
      have HT2 := hid (HT1.out.only hO2 HM.out.hR HM.out.tr)
      have HO2 := hid (own_only HO1.out hO2 HR1.out (by decide))
      have HR2 := hid hR2
      have HOn2 := hid (HOn1.out.grow (hO2.below W.heap.size HM.out.hW HOn1.out.size))
      have hsz2 : W.heap.size ≤ w2.heap.size := HOn2.out.size
      clear hR2 hO2 HTK HO1 HT1 HR1 HOn1
      go_wp2_with (at_builtin; refine wpList_append_1k (W := w2) rfl (.tmp 23) (.tmp 31) 26 rfl W.heap.size 3 Tryz.underlying26 info_int rfl (by omega) rfl HO2.out rfl rfl (by simp; rfl) ?c1 ?c2 hsz2 (Below.refl _ _) ?_)
      case c1 => unfold maxLen; omega
      case c2 => omega
      · intro v' w' h2 h3 h4 h5
        have HSM : Hid (SmG W w' T W.heap.size G E m l (elems s) (j + 1) v' l'.tail (lessS s' xx) (acc ++ [xx])) := hid (by
          refine ⟨HT2.out.low h3 HM.out.hT HW.out, ?_, lessS_lt _ _ HM.out.hs, ?_, by rw [icells_append]; exact h2, fun x hx => HM.out.lu x (List.mem_of_mem_tail hx), ?_, HOn2.out.grow h3, HM.out.tr, HM.out.hR, HM.out.hW, HM.out.hT⟩
          · rw [h5 W.heap.size (Nat.le_refl _) (lt_of_block HR2.out) (own_blk_ne HO2.out HR2.out (by decide))]
            exact HR2.out
          · rw [HE.out]
            exact HP.out
          · have := HM.out.ll
            rw [List.length_tail]; omega)
        clear h2 h3 h4 h5
        go_wp2
        go_roundw
        case rel => exact ⟨j + 1, l'.tail, lessS s' xx, acc ++ [xx], by omega, by go_num, HSM.out⟩
        case measure => simp [intOf]; omega
    · have HST := hid (HM.out.pk.stop (by have := HQ.out; have := HMM.out; omega))
      obtain ⟨A9, c9, rfl, _⟩ := Sl.of_own HM.out.o
      go_wp2
      go_ret
      obtain rfl := HMM.out
      rw [HST.out]
      have hal : acc.length = j := by have := HM.out.pk; unfold PkAt at this; exact this.2.2.1
      rw [hal]
      exact ⟨_, rfl, HM.out.o, HM.out.t, HM.out.only⟩
end Go.Proofs.YtgakobolhmdnnaaGreat

namespace Go.Proofs.YtgakobolhmdnnaaGreat
open Go.RowKit
set_option linter.unusedVariables false
set_option linter.unusedSimpArgs false

/-- Block G is a row of draws of the call's own, up to E. -/
def RowG (w : World) (G : Option Nat) (E B : Nat) : Prop := ∀ g, G = some g → B ≤ g ∧ ∃ cur, w.heap[g]? = some (.cells cur 43 (0, 0)) ∧ E ≤ cur.size
theorem mid_of {w : World} {A : Option Addr} {c E B : Nat} {G : Option Nat} {l : List Nat} (h : Sl w 1 A l.length c (ucells l)) (hg : InG A c G E) (hr : RowG w G E B) : Mid w B 43 1 (.slice A l.length c) l.length (ucells l) := by
  refine ⟨h.1, ?_⟩
  rcases hg with ⟨rfl, rfl, _⟩ | ⟨g, off, hG, rfl, hE⟩
  · have h0 : l.length = 0 := by have := h.2.1; omega
    exact .inl ⟨by rw [h0], h0⟩
  · obtain ⟨hB, cur, hc, hs⟩ := hr g hG
    refine .inr ⟨g, off, c, cur, rfl, hB, hc, h.2.1, h.2.2.1, by omega, ?_⟩
    apply List.ext_getElem?
    intro i
    have hl1 := ucells_length l
    by_cases hi : i < l.length
    · obtain ⟨b', off', ha, hcell⟩ := h.2.2.2 (by omega)
      cases ha
      have h9 := hcell i (by omega)
      rw [cell_of_row w g (off + i) cur 43 (0, 0) hc] at h9
      rw [List.getElem?_take, if_pos (by omega), List.getElem?_drop]
      simpa using h9
    · rw [List.getElem?_take, if_neg (by omega), List.getElem?_eq_none (by omega)]
theorem of_mid {w : World} {B n : Nat} {v : Value} {l : List Nat} (h : Mid w B 43 1 v n (ucells l)) : ∃ A c G E, v = .slice A n c ∧ Sl w 1 A n c (ucells l) ∧ InG A c G E ∧ RowG w G E B := by
  obtain ⟨A0, c0, hv, hs⟩ := h.form
  rcases h.2 with ⟨h1, h2⟩ | ⟨g, off, cap, cur, h1, h2, h3, h4, h5, h6, h7⟩
  · subst h1
    cases hv
    exact ⟨none, 0, none, 0, rfl, hs, .inl ⟨rfl, rfl, rfl⟩, fun g hg => by cases hg⟩
  · subst h1
    cases hv
    exact ⟨_, _, some g, cur.size, rfl, hs, .inr ⟨g, off, rfl, rfl, by omega⟩, fun g' hg => by cases hg; exact ⟨h2, cur, h3, Nat.le_refl _⟩⟩

set_option maxRecDepth 20000 in
theorem addG (T : Nat) (G : Option Nat) (E B : Nat) (l m : List Nat) (A2 : Option Addr) (len2 cap2 : Nat) (W : World) (h : TapeG W T G E l) (hr : RowG W G E B) (hB : B ≤ W.heap.size) (h2 : Sl W 1 A2 len2 cap2 (ucells m)) (hl : l.length + m.length ≤ 10000) (hT : B ≤ T) :
    Calls Tryz.prog 27 #[.pointer (some ⟨T, 0, none⟩), .slice A2 len2 cap2] W fun e w' => (∃ v, e = .returned v) ∧ (∃ G' E', TapeG w' T G' E' (l ++ m) ∧ RowG w' G' E' B) ∧ Below B W w' ∧ ∀ g, g < W.heap.size → g ≠ T → G ≠ some g → w'.heap[g]? = W.heap[g]? := by
  obtain rfl : len2 = m.length := by have := h2.1; rw [ucells_length] at this; omega
  obtain ⟨A, c, hTT, hs, hg⟩ := h
  have HMID := hid (mid_of hs hg hr)
  have HBLK : Hid (∀ g, (Value.slice A l.length c).ownBlock = some g → G = some g) := hid (fun g h9 => by
    rcases hg with ⟨rfl, _, _⟩ | ⟨g', off, hG, rfl, _⟩
    · simp [Value.ownBlock] at h9
    · have : g' = g := by simpa [Value.ownBlock] using h9
      rw [hG, this])
  have HA := hid h2
  have HL := hid hl
  have hc := cell_of_row W T 0 _ _ _ hTT
  have hf := frozen_of_row W T 0 _ _ hTT
  have HT := hid hTT
  have HB := hid hB
  have HTB := hid hT
  simp at hc
  clear hs hg hr h2 hl hTT hB hT
  go_enter Tryz.func27, Tryz.ntmps27
  go_wp2_with (at_builtin; refine wpList_append_mid (W := W) rfl (.tmp 10) (.tmp 11) 30 rfl B 43 Tryz.underlying30 info_u64w rfl (by omega) rfl HMID.out rfl HA.out (ucells_one _) (by have := HL.out; unfold maxLen; omega) (by have := HL.out; omega) HB.out (Below.refl _ _) ?_)
  intro v1 w1 hm1 hb1 hz1 hk1
  have hne : (Value.slice A l.length c).ownBlock ≠ some T := fun h9 => by
    rcases HMID.out.2 with ⟨h8, _⟩ | ⟨g, off, cap, cur, h8, _, h7, _⟩
    · rw [h8] at h9; simp [Value.ownBlock] at h9
    · rw [h8] at h9
      have : g = T := by simpa [Value.ownBlock] using h9
      subst this
      rw [HT.out] at h7
      injection h7 with h7
      injection h7 with _ h6
      exact absurd h6 (by decide)
  have hT1 : w1.heap[T]? = some (.cells #[.slice A l.length c] 62 (0, 0)) := (hk1 T (lt_of_block HT.out) hne).trans HT.out
  have hm2 : Mid w1 B 43 1 v1 (l.length + m.length) (ucells (l ++ m)) := by
    have h9 : ucells (l ++ m) = ucells l ++ ucells m := by simp [ucells]
    rw [h9]; exact hm1
  obtain ⟨A3, c3, G3, E3, rfl, hs3, hg3, hr3⟩ := of_mid hm2
  have hc1 := cell_of_row w1 T 0 _ _ _ hT1
  have hf1 := frozen_of_row w1 T 0 _ _ hT1
  simp at hc1
  have HT1 := hid hT1
  have HB1 := hid hb1
  have HK1 := hid hk1
  have HS3 := hid hs3
  have HG3 := hid hg3
  have HR3 := hid hr3
  clear hT1 hm1 hm2 hb1 hk1 hz1 hne hs3 hg3 hr3
  go_wp2
  go_end0
  refine ⟨⟨_, rfl⟩, ⟨G3, E3, ⟨A3, c3, ?_, ?_, HG3.out⟩, fun g hg => ?_⟩, HB1.out.setCell HTB.out _, fun g hg hgT hgG => ?_⟩
  · rw [List.length_append]
    simpa using heap_setCell_same w1 T 0 _ _ (.slice A3 (l.length + m.length) c3) HT1.out
  · rw [List.length_append]
    exact sl_apart HS3.out HT1.out (fun n => by simp) _
  · obtain ⟨h1, cur, h2, h3⟩ := HR3.out g hg
    refine ⟨h1, cur, (Below.heap_setCell _ _ _ _ ?_).trans h2, h3⟩
    rintro rfl
    rw [HT1.out] at h2
    injection h2 with h2
    injection h2 with _ h6
    exact absurd h6 (by decide)
  · exact (Below.heap_setCell _ _ _ _ hgT).trans (HK1.out g hg (fun h9 => hgG (HBLK.out g h9)))
end Go.Proofs.YtgakobolhmdnnaaGreat

namespace Go.Proofs.YtgakobolhmdnnaaGreat
open Go.RowKit
set_option linter.unusedVariables false
set_option linter.unusedSimpArgs false

theorem add0 (x : Value) (W : World) : Calls Tryz.prog 27 #[.pointer none, x] W fun e w' => (∃ v, e = .returned v) ∧ W = w' := by
  go_enter Tryz.func27, Tryz.ntmps27
  go_wp2
  go_end0
  exact ⟨⟨_, rfl⟩, rfl⟩
theorem next0 (W : World) : Calls Tryz.prog 63 #[.pointer none] W fun e w' => e = .returned (.int .u64 0) ∧ W = w' := by
  go_enter Tryz.func63, Tryz.ntmps63
  go_wp2
  go_ret
  exact ⟨rfl, rfl⟩
theorem below0 (n : Int) (W : World) (hn : n ≤ 9223372036854775807) : Calls Tryz.prog 45 #[.pointer none, .int .i64 n] W fun e w' => e = .returned (.int .i64 0) ∧ W = w' := by
  by_cases h1 : n < 1
  · go_enter Tryz.func45, Tryz.ntmps45
    go_wp2
    go_ret
    exact ⟨rfl, rfl⟩
  · obtain ⟨m, rfl⟩ : ∃ m : Nat, n = (m : Int) := ⟨n.toNat, by omega⟩
    have hm : (1 : Int) ≤ (m : Int) := by omega
    have hz : ((m : Int) == 0) = false := by rw [beq_eq_false_iff_ne]; omega
    have hq : ((0 : Int) % (m : Int)) = 0 := Int.zero_emod _
    have hq2 : ((0 : Int).tmod (m : Int)) = 0 := Int.zero_tmod _
    go_enter Tryz.func45, Tryz.ntmps45
    go_wp2_with fail
    refine (next0 _).mono ?_
    rintro e w1 ⟨rfl, rfl⟩
    go_wp2
    go_ret
    exact ⟨rfl, rfl⟩
theorem left0 (W : World) : Calls Tryz.prog 13 #[.pointer none] W fun e w' => e = .returned (.slice none 0 0) ∧ W = w' := by
  go_enter Tryz.func13, Tryz.ntmps13
  go_wp2
  go_ret
  exact ⟨rfl, rfl⟩
theorem RowG.only {w w' : World} {G : Option Nat} {E B R : Nat} {cs : Array Value} {t : TypeId} (h : RowG w G E B) (ho : Only R w w') (hR : w.heap[R]? = some (.cells cs t (0, 0))) (hne : t ≠ 43) : RowG w' G E B := fun g hg => by
  obtain ⟨h1, cur, h2, h3⟩ := h g hg
  refine ⟨h1, cur, ho.block h2 ?_, h3⟩
  rintro rfl
  rw [h2] at hR
  injection hR with hR
  injection hR with _ h6
  exact hne h6.symm
theorem RowG.below {w w' : World} {G : Option Nat} {E B : Nat} (h : RowG w G E B) (hb : Below w.heap.size w w') : RowG w' G E B := fun g hg => by
  obtain ⟨h1, cur, h2, h3⟩ := h g hg
  exact ⟨h1, cur, keep0 h2 hb, h3⟩
end Go.Proofs.YtgakobolhmdnnaaGreat

namespace Go.Proofs.YtgakobolhmdnnaaGreat
open Go.RowKit
set_option linter.unusedVariables false
set_option linter.unusedSimpArgs false

theorem ucell_at {W : World} {A : Option Addr} {len cap : Nat} {l : List Nat} (h : Sl W 1 A len cap (ucells l)) (k : Nat) (hk : k < l.length) : ∃ b off, A = some ⟨b, off, none⟩ ∧ W.cell? ⟨b, off + k, none⟩ = some (.int .u64 (l[k] : Nat)) := by
  obtain ⟨b, off, rfl, hc⟩ := Sl.at h k (by rw [ucells_length]; exact hk)
  have e1 : (ucells l)[k]'(by rw [ucells_length]; exact hk) = .int .u64 ((l[k]'hk : Nat) : Int) := by simp [ucells]
  rw [e1] at hc
  exact ⟨b, off, rfl, hc⟩

set_option maxHeartbeats 400000 in
theorem rdsame_any (A B : Option Addr) (len cap len' cap' : Nat) (l m : List Nat) (W : World) (hA : Sl W 1 A len cap (ucells l)) (hB : Sl W 1 B len' cap' (ucells m)) (h6 : len ≤ 9223372036854775807) (h7 : len' ≤ 9223372036854775807) :
    Calls Tryz.prog 12 #[.slice A len cap, .slice B len' cap'] W fun e w' => e = .returned (.bool (l == m)) ∧ ∃ q, w' = W.drewN q := by
  obtain rfl : len = l.length := by have := hA.1; rw [ucells_length] at this; omega
  obtain rfl : len' = m.length := by have := hB.1; rw [ucells_length] at this; omega
  by_cases hlen : l.length = m.length
  · have HA := hid hA
    have HB := hid hB
    clear hA hB
    have HL := hid hlen
    rw [← hlen]
    clear h7 hlen
    go_enter Tryz.func12, Tryz.ntmps12
    go_wp2
    go_loopw [5] (fun i wr => ∃ k q : Nat, k ≤ l.length ∧ i = .int .i64 (k : Int) ∧ wr = W.drewN q ∧ Hid (l.take k = m.take k)) (fun i _ => l.length - (intOf i).toNat)
    case atStart => exact ⟨0, 0, by omega, rfl, rfl, by simp [Hid]⟩
    case round =>
      obtain ⟨k, q, hk, rfl, rfl, HT⟩ := hrel
      by_cases hlt : k < l.length
      · have hltm : k < m.length := by have := HL.out; omega
        obtain ⟨b, off, rfl, hc⟩ := ucell_at HA.out k hlt
        obtain ⟨b2, off2, rfl, hc2⟩ := ucell_at HB.out k hltm
        have HE : Hid (l[k] = m[k] ↔ l.take (k + 1) = m.take (k + 1)) := by
          have h1 : l.take (k + 1) = l.take k ++ [l[k]] := by rw [List.take_add_one, List.getElem?_eq_getElem hlt]; rfl
          have h2 : m.take (k + 1) = m.take k ++ [m[k]] := by rw [List.take_add_one, List.getElem?_eq_getElem hltm]; rfl
          rw [Hid, h1, h2, HT.out]
          exact ⟨fun h => by rw [h], fun h => by simpa using List.append_cancel_left h⟩
        generalize l[k] = x at hc HE
        generalize m[k] = y at hc2 HE
        have hlt2 : (k : Int) < (l.length : Int) := by omega
        by_cases hxy : x = y
        · have HE2 := hid (HE.out.1 hxy)
          clear HE
          subst hxy
          have hne : (((x : Nat) : Int) != (x : Int)) = false := by simp
          go_wp2
          go_quiet (fail)
          go_wp2
          go_roundw
          case rel => exact ⟨k + 1, q + nq, by omega, by go_num, rfl, HE2.out⟩
          case measure => simp [intOf]; omega
        · have hz : (((x : Nat) : Int) != (y : Int)) = true := by rw [bne_iff_ne]; omega
          have HF : Hid ((l == m) = false) := by
            simp only [Hid, beq_eq_false_iff_ne, ne_eq]
            intro h
            exact hxy (HE.out.2 (by rw [h]))
          clear HE hxy
          go_wp2
          go_quiet (fail)
          go_wp2
          go_ret
          refine ⟨?_, q + nq, by simp⟩
          rw [HF.out]
          rfl
      · have HF : Hid ((l == m) = true) := by
          have h1 := HT.out
          rw [List.take_of_length_le (by omega), List.take_of_length_le (by have := HL.out; omega)] at h1
          simp [Hid, h1]
        have hge : ¬ (k : Int) < (l.length : Int) := by omega
        go_wp2
        go_ret
        refine ⟨?_, _, rfl⟩
        rw [HF.out]
        rfl
  · have HF : Hid ((l == m) = false) := by
      simp only [Hid, beq_eq_false_iff_ne, ne_eq]
      intro h
      exact hlen (by rw [h])
    rw [HF.out]
    have hne : ((l.length : Int) != (m.length : Int)) = true := by simp; omega
    clear HF hA hB h6 h7 hlen
    go_enter Tryz.func12, Tryz.ntmps12
    go_wp2
    go_ret
    exact ⟨rfl, 0, rfl⟩

/-- A slice that lies in the same block as another one, or nowhere. -/
def Fro (A A' : Option Addr) : Prop := ∀ b off, A' = some ⟨b, off, none⟩ → ∃ o2, A = some ⟨b, o2, none⟩
theorem Fro.refl (A : Option Addr) : Fro A A := fun b off h => ⟨off, h⟩
theorem Fro.trans {A B C : Option Addr} (h : Fro A B) (h2 : Fro B C) : Fro A C := fun b off h3 => by
  obtain ⟨o, h4⟩ := h2 b off h3
  exact h b o h4
theorem Fro.nil (A : Option Addr) : Fro A none := fun b off h => by cases h
theorem Fro.drop (b off cap k n : Nat) : Fro (some ⟨b, off, none⟩) (dropA (some ⟨b, off, none⟩) cap k n) := fun b2 o2 h => by
  unfold dropA at h
  split at h
  · cases h
    exact ⟨off, rfl⟩
  · rw [Option.map_some, add_none] at h
    cases h
    exact ⟨off, rfl⟩
theorem rdnext_any (A : Option Addr) (len cap : Nat) (l : List Nat) (V W : World) (hV : Below V.heap.size V W) (h : Sl V 1 A len cap (ucells l)) :
    Calls Tryz.prog 64 #[.slice A len cap] W fun e w' => ∃ A' c', e = .returned (.tuple #[.int .u64 ((l.headD 0 : Nat) : Int), .slice A' l.tail.length c']) ∧ Sl V 1 A' l.tail.length c' (ucells l.tail) ∧ Fro A A' ∧ ∃ q, w' = W.drewN q := by
  obtain rfl : len = l.length := by have := h.1; rw [ucells_length] at this; omega
  match l, h with
  | [], h =>
    clear h hV
    go_enter Tryz.func64, Tryz.ntmps64
    go_wp2
    go_ret2
    exact ⟨none, 0, rfl, Sl.nil _ _ _ _ (Nat.zero_le _), Fro.nil _, 0, rfl⟩
  | x :: l, h =>
    have hD := h.drop 1 (by simp)
    have e1 : (ucells (x :: l)).drop (1 * 1) = ucells l := rfl
    rw [e1] at hD
    have hrun := run_from Tryz.underlying30 info_u64w A (x :: l).length cap 1 (by simp)
    obtain ⟨b, off, rfl, c0⟩ := ucell_at (h.below hV) 0 (by simp)
    have e2 : (x :: l).length - 1 = l.length := by simp
    rw [e2] at hD hrun
    simp only [Int.natCast_one] at hrun
    simp only [List.getElem_cons_zero, Nat.add_zero] at c0
    have HD := hid hD
    obtain ⟨n, hn⟩ : ∃ n, n = (x :: l).length := ⟨_, rfl⟩
    have hn1 : 1 ≤ n := by rw [hn]; simp
    have hn2 : (1 : Int) ≤ (n : Int) := by omega
    have hn3 : (0 : Int) < (n : Int) := by omega
    have hn4 : ((n : Int) == 0) = false := by rw [beq_eq_false_iff_ne]; omega
    rw [← hn] at hrun ⊢
    have HN := hid hn
    clear hn h hD e1 e2 hV
    have HFR := hid (Fro.drop b off cap 1 1)
    generalize dropA (some ⟨b, off, none⟩) cap 1 1 = A9 at *
    go_enter Tryz.func64, Tryz.ntmps64
    go_wp2
    go_quiet (fail)
    go_wp2
    go_ret2
    exact ⟨A9, cap - 1, rfl, HD.out, HFR.out, nq, rfl⟩

set_option maxRecDepth 20000 in
theorem rdbelow_any (A : Option Addr) (len cap : Nat) (l : List Nat) (n : Int) (V W : World) (hV : Below V.heap.size V W) (h : Sl V 1 A len cap (ucells l)) (hu : ∀ x ∈ l, x < 18446744073709551616) (hn : n ≤ 9223372036854775807) :
    Calls Tryz.prog 46 #[.slice A len cap, .int .i64 n] W fun e w' => ∃ A' c', e = .returned (.tuple #[.int .i64 (blw n l : Nat), .slice A' (if n < 1 then l else l.tail).length c']) ∧ Sl V 1 A' (if n < 1 then l else l.tail).length c' (ucells (if n < 1 then l else l.tail)) ∧ Fro A A' ∧ ∃ q, w' = W.drewN q := by
  obtain rfl : len = l.length := by have := h.1; rw [ucells_length] at this; omega
  have H := hid h
  have HX := hid (rdnext_any A l.length cap l V W hV h)
  clear h hV
  by_cases h1 : n < 1
  · have hb : blw n l = 0 := by rw [blw, if_pos h1]
    rw [hb, if_pos h1]
    clear hb HX hu
    go_enter Tryz.func46, Tryz.ntmps46
    go_wp2
    go_ret2
    exact ⟨A, cap, rfl, H.out, Fro.refl _, 0, rfl⟩
  · obtain ⟨m, rfl⟩ : ∃ m : Nat, n = (m : Int) := ⟨n.toNat, by omega⟩
    have hb : blw (m : Int) l = l.headD 0 % m := by rw [blw, if_neg h1, Int.toNat_natCast]
    have hx : l.headD 0 < 18446744073709551616 := by
      cases l with
      | nil => simp
      | cons x r => exact hu x (by simp)
    have hm : (1 : Int) ≤ (m : Int) := by omega
    have hmod := Nat.mod_lt (l.headD 0) (show 0 < m by omega)
    have hz : ((m : Int) == 0) = false := by rw [beq_eq_false_iff_ne]; omega
    rw [hb, if_neg h1]
    generalize l.headD 0 = x at *
    generalize l.tail = tl at *
    clear hu hb h1
    have hq : ((x : Int) % (m : Int)) = ((x % m : Nat) : Int) := rfl
    have hq2 : ((x : Int).tmod (m : Int)) = ((x % m : Nat) : Int) := rfl
    generalize x % m = y at *
    go_enter Tryz.func46, Tryz.ntmps46
    go_wp2_with fail
    refine HX.out.mono ?_
    rintro e w1 ⟨A', c', rfl, hs, hfr, q, rfl⟩
    have HS := hid hs
    have HFR := hid hfr
    clear hs hfr HX
    go_wp2
    go_ret2
    exact ⟨A', c', rfl, HS.out, HFR.out, q, rfl⟩

set_option maxRecDepth 20000 in
theorem tleft_any (T N : Nat) (l : List Nat) (W : World) (h : TapeAt W T N l) (hl : l.length ≤ 1000) :
    Calls Tryz.prog 13 #[.pointer (some ⟨T, 0, none⟩)] W fun e w' => ∃ A' c', e = .returned (.slice A' l.length c') ∧ w'.ownsRow W.heap.size 43 1 (.slice A' l.length c') l.length (ucells l) ∧ Below W.heap.size W w' := by
  obtain ⟨A, c, hT, hs, hN⟩ := h
  have hc := cell_of_row W T 0 _ _ _ hT
  simp at hc
  have HS := hid hs
  clear hs hN hT
  go_enter Tryz.func13, Tryz.ntmps13
  go_wp2_with (at_builtin; refine wpList_append_sl (W := W) rfl _ (.tmp 8) 30 rfl W.heap.size 43 Tryz.underlying30 info_u64w rfl (by omega) rfl (World.ownsRow_nil _ _ _ _) rfl HS.out (ucells_one _) (by unfold maxLen; omega) (by omega) (Nat.le_refl _) (Below.refl _ _) ?_)
  intro v1 w1 ho1 hb1 _
  obtain ⟨A1, c1, rfl, _⟩ := Sl.of_own ho1
  have HO := hid ho1
  have HB := hid hb1
  clear ho1 hb1
  go_wp2
  go_ret
  exact ⟨A1, c1, rfl, HO.out, HB.out⟩

end Go.Proofs.YtgakobolhmdnnaaGreat

namespace Go.Proofs.YtgakobolhmdnnaaGreat
open Go.RowKit
set_option linter.unusedVariables false
set_option linter.unusedSimpArgs false

theorem RowG.mono {w : World} {G : Option Nat} {E B B' : Nat} (h : RowG w G E B) (hb : B' ≤ B) : RowG w G E B' := fun g hg => ⟨Nat.le_trans hb (h g hg).1, (h g hg).2⟩
set_option maxRecDepth 20000 in
theorem newG (A : Option Addr) (len cap : Nat) (l : List Nat) (W : World) (h : Sl W 1 A len cap (ucells l)) (hl : len ≤ 1000) :
    Calls Tryz.prog 8 #[.slice A len cap] W fun e w' => ∃ T G E, e = .returned (.pointer (some ⟨T, 0, none⟩)) ∧ W.heap.size ≤ T ∧ TapeG w' T G E l ∧ RowG w' G E W.heap.size ∧ Below W.heap.size W w' := by
  obtain rfl : len = l.length := by have := h.1; rw [ucells_length] at this; omega
  have HADD := hid (fun w (hb : Below W.heap.size W w) (hT : w.heap[W.heap.size]? = some (.cells #[.slice none 0 0] 62 (0, 0))) => addG W.heap.size none 0 W.heap.size [] l A l.length cap w ⟨none, 0, hT, Sl.nil _ _ _ _ (Nat.zero_le _), .inl ⟨rfl, rfl, rfl⟩⟩ (fun g hg => by cases hg) hb.size (h.below hb) (by simp; omega) (Nat.le_refl _))
  simp only [List.nil_append] at HADD
  clear h hl
  go_enter Tryz.func8, Tryz.ntmps8
  go_wp2_with fail
  refine (HADD.out _ ((Below.refl _ _).alloc (Nat.le_refl _) _) (heap_alloc_new _ _)).mono ?_
  rintro e w1 ⟨⟨v, rfl⟩, ⟨G, E, hT, hR⟩, hb, _⟩
  have HT := hid hT
  have HR := hid hR
  have HB := hid ((((Below.refl W.heap.size W).alloc (Nat.le_refl _) _)).trans hb)
  clear hT hR hb HADD
  go_wp2
  go_ret
  exact ⟨W.heap.size, G, E, rfl, Nat.le_refl _, HT.out, HR.out, HB.out⟩
theorem leftG (T : Nat) (G : Option Nat) (E : Nat) (l : List Nat) (W : World) (h : TapeG W T G E l) (hl : l.length ≤ 1000) :
    Calls Tryz.prog 13 #[.pointer (some ⟨T, 0, none⟩)] W fun e w' => ∃ A' c', e = .returned (.slice A' l.length c') ∧ w'.ownsRow W.heap.size 43 1 (.slice A' l.length c') l.length (ucells l) ∧ Below W.heap.size W w' := by
  obtain ⟨A, c, hT, hs, _⟩ := h
  exact tleft_any T W.heap.size l W (TapeAt.of hT hs) hl
end Go.Proofs.YtgakobolhmdnnaaGreat

namespace Go.Proofs.YtgakobolhmdnnaaGreat
open Go.RowKit
set_option linter.unusedVariables false
set_option linter.unusedSimpArgs false

theorem own_blk_lt {w : World} {base e s n g : Nat} {v : Value} {xs : List Value} (h : w.ownsRow base e s v n xs) (hg : v.ownBlock = some g) : g < w.heap.size := by
  rcases h.2 with ⟨rfl, _⟩ | ⟨g', cap, cur, rfl, _, hh, _⟩
  · simp [Value.ownBlock] at hg
  · have : g' = g := by simpa [Value.ownBlock] using hg
    subst this
    exact lt_of_block hh
def lenV : Value → Nat
  | .slice _ n _ => n
  | _ => 0
def lessI (e : List Int) (i j : Nat) : List Int := (e.take j).eraseIdx i
theorem lessI_hit (e : List Int) (i : Nat) (hi : i < e.length) : lessI e i (i + 1) = lessI e i i := by
  unfold lessI
  have e1 : e.take (i + 1) = e.take i ++ [e[i]] := by rw [List.take_add_one, List.getElem?_eq_getElem hi]; rfl
  have e2 : (e.take i).length = i := by simp; omega
  have h1 : (e.take i ++ [e[i]]).eraseIdx i = e.take i := by
    rw [List.eraseIdx_append_of_length_le (by omega), e2, Nat.sub_self]
    simp
  rw [e1, h1, List.eraseIdx_of_length_le (by omega)]
theorem lessI_step (e : List Int) (i j : Nat) (hj : j < e.length) (hne : j ≠ i) : lessI e i (j + 1) = lessI e i j ++ [e[j]] := by
  unfold lessI
  have e1 : e.take (j + 1) = e.take j ++ [e[j]] := by rw [List.take_add_one, List.getElem?_eq_getElem hj]; rfl
  have e2 : (e.take j).length = j := by simp; omega
  rw [e1]
  rcases Nat.lt_or_ge j i with h | h
  · rw [List.eraseIdx_of_length_le (by simp; omega), List.eraseIdx_of_length_le (by omega)]
  · rw [List.eraseIdx_append_of_lt_length (by omega)]
theorem lessI_len (e : List Int) (i j : Nat) : (lessI e i j).length ≤ j := by
  unfold lessI
  exact Nat.le_trans (List.length_eraseIdx_le _ _) (by simp; omega)
/-- What the outer loop holds. -/
def SomeAt (l : List Nat) (e0 : List Int) (k : Nat) (ls : List Nat) (out e : List Int) : Prop :=
  ∃ m, out.length + m = k ∧ pk k l e0 = (out ++ (pk m ls e).1, (pk m ls e).2) ∧ out.length + e.length = e0.length ∧ ls.length ≤ l.length ∧ (∀ x ∈ ls, x ∈ l)
theorem SomeAt.start (l : List Nat) (e0 : List Int) (k : Nat) : SomeAt l e0 k l [] e0 := ⟨k, by simp, by simp, by simp, Nat.le_refl _, fun _ h => h⟩
theorem SomeAt.next {l ls : List Nat} {e0 out e : List Int} {k : Nat} (h : SomeAt l e0 k ls out e) (h1 : out.length < k) (h2 : e.length ≠ 0) : SomeAt l e0 k ls.tail (out ++ [e.getD (ls.headD 0 % e.length) 0]) (e.eraseIdx (ls.headD 0 % e.length)) := by
  obtain ⟨m, a1, a2, a3, a4, a5⟩ := h
  obtain ⟨m, rfl⟩ : ∃ n, m = n + 1 := ⟨m - 1, by omega⟩
  refine ⟨m, by simp; omega, ?_, ?_, ?_, ?_⟩
  · rw [a2, pk_step m ls e h2]
    simp
  · rw [erase_len _ _ (idx_lt ls e h2)]; simp; omega
  · rw [List.length_tail]; omega
  · exact fun x hx => a5 x (List.mem_of_mem_tail hx)
theorem SomeAt.stop {l ls : List Nat} {e0 out e : List Int} {k : Nat} (h : SomeAt l e0 k ls out e) (h1 : k ≤ out.length ∨ e.length = 0) : pk k l e0 = (out, ls) := by
  obtain ⟨m, a1, a2, a3, a4, a5⟩ := h
  rcases h1 with h1 | h1
  · obtain rfl : m = 0 := by omega
    rw [a2, pk_zero]; simp
  · obtain rfl := List.eq_nil_of_length_eq_zero h1
    rw [a2, pk_nil]; simp

set_option maxRecDepth 20000 in
set_option maxHeartbeats 4000000 in
theorem rsome_any (A : Option Addr) (len cap : Nat) (l : List Nat) (s : Nat) (k : Int) (W : World) (h : Sl W 1 A len cap (ucells l)) (hl : len ≤ 1000) (hu : ∀ x ∈ l, x < 18446744073709551616) (hs : s < 18446744073709551616) (hk : k ≤ 9223372036854775807) :
    Calls Tryz.prog 30 #[.slice A len cap, .int .u64 (s : Int), .int .i64 k] W fun e w' => ∃ A1 c1 A2 c2, e = .returned (.tuple #[.slice A1 (pk k.toNat l (elems s)).1.length c1, .slice A2 (pk k.toNat l (elems s)).2.length c2]) ∧ w'.ownsRow W.heap.size 3 1 (.slice A1 (pk k.toNat l (elems s)).1.length c1) (pk k.toNat l (elems s)).1.length (icells .i64 (pk k.toNat l (elems s)).1) ∧ Sl w' 1 A2 (pk k.toNat l (elems s)).2.length c2 (ucells (pk k.toNat l (elems s)).2) ∧ Fro A A2 ∧ Below W.heap.size W w' := by
  obtain rfl : len = l.length := by have := h.1; rw [ucells_length] at this; omega
  have HSL := hid h
  have HU := hid hu
  have HLI := hid (rlist_any s W hs)
  have hn64 : (elems s).length ≤ 64 := by rw [elems_def]; exact elemsU_len s 64
  have HL := hid hl
  clear h hu
  have HK := hid (show k.toNat = k.toNat from rfl)
  generalize elems s = e0 at *
  go_enter Tryz.func30, Tryz.ntmps30
  go_wp2_with fail
  refine HLI.out.mono ?_
  rintro x w1 ⟨v, rfl, hb1, ho1⟩
  have HB1 := hid hb1
  have HO1 := hid ho1
  have HS1 := hid (HSL.out.below hb1)
  clear ho1 hb1 HLI
  go_wp2
  go_loopw [0, 8, 9] (fun lv ov ev wr => ∃ (AA : Option Addr) (c : Nat) (ls : List Nat) (out e : List Int), lv = .slice AA ls.length c ∧ Hid (SomeAt l e0 k.toNat ls out e) ∧ Hid (Sl W 1 AA ls.length c (ucells ls) ∧ Fro A AA) ∧ Hid (wr.ownsRow W.heap.size 3 1 ov out.length (icells .i64 out)) ∧ Hid (∃ N, W.heap.size ≤ N ∧ N ≤ wr.heap.size ∧ wr.ownsRow N 3 1 ev e.length (icells .i64 e) ∧ ∀ g, ov.ownBlock = some g → g < N) ∧ Hid (Below W.heap.size W wr)) (fun _ _ ev _ => lenV ev)
  case atStart => exact ⟨A, cap, l, [], e0, rfl, SomeAt.start _ _ _, ⟨HSL.out, Fro.refl _⟩, World.ownsRow_nil _ _ _ _, ⟨W.heap.size, Nat.le_refl _, HB1.out.size, HO1.out, fun g hg => by simp [Value.ownBlock] at hg⟩, HB1.out⟩
  case round =>
    obtain ⟨A0, c0, ls, out, e, rfl, HAT, HS, HOO, HOE, HB⟩ := hrel
    obtain ⟨Ao, co, rfl, jo⟩ := Sl.of_own HOO.out
    obtain ⟨N, hN1, hN2, hoe, hblk⟩ := HOE.out
    obtain ⟨Ae, ce, rfl, je⟩ := Sl.of_own hoe
    have HE := hid hoe
    have HBK := hid hblk
    have HN := hid (And.intro hN1 hN2)
    clear hoe hblk HOE hN1 hN2
    have hel : out.length + e.length = e0.length := by obtain ⟨_, _, _, h9, _⟩ := HAT.out; exact h9
    have hll : ls.length ≤ l.length := by obtain ⟨_, _, _, _, h9, _⟩ := HAT.out; exact h9
    have HLU : Hid (∀ x ∈ ls, x < 18446744073709551616) := hid (by obtain ⟨_, _, _, _, _, h9⟩ := HAT.out; exact fun x hx => HU.out x (h9 x hx))
    clear jo je
    by_cases hgo : 0 < e.length ∧ (out.length : Int) < k
    · obtain ⟨g1, g2⟩ := hgo
      have g1' : (0 : Int) < (e.length : Int) := by omega
      have hd1 : decide ((0 : Int) < (e.length : Int)) = true := decide_eq_true g1'
      have hd2 : decide ((out.length : Int) < k) = true := decide_eq_true g2
      have HNX := hid (HAT.out.next (by omega) (by omega))
      have HBW := hid (rdbelow_any A0 ls.length c0 ls (e.length : Int) W wr HB.out HS.out.1 HLU.out (by omega))
      have hb : blw (e.length : Int) ls = ls.headD 0 % e.length := by rw [blw, if_neg (by omega), Int.toNat_natCast]
      have hi0 := idx_lt ls e (by omega)
      rw [hb, if_neg (show ¬ (e.length : Int) < 1 by omega)] at HBW
      clear hb
      generalize ls.headD 0 % e.length = i0 at *
      generalize htl : ls.tail = tl at *
      clear htl
      have hi0' : (i0 : Int) < (e.length : Int) := by omega
      go_wp2_with fail
      refine HBW.out.mono ?_
      rintro x w2 ⟨A', c', rfl, hs', hfr, q, rfl⟩
      have hb2 : Below wr.heap.size wr (wr.drewN q) := ⟨rfl, rfl, rfl, Nat.le_refl _, fun _ _ => rfl⟩
      refine at_world (fun w => Below wr.heap.size wr w) hb2 ?_
      rintro w2 hb2
      have HB2 := hid (HB.out.trans (hb2.mono HB.out.size))
      have HS2 := hid (And.intro hs' (HS.out.2.trans hfr))
      clear hfr
      have HOO2 := hid (own_keep HOO.out hb2)
      have HE2 := hid (own_keep HE.out hb2)
      have HN2 := hid (Nat.le_trans HN.out.2 hb2.size)
      obtain ⟨ge, oe, rfl, hce⟩ := Sl.at (sl_own HE2.out) i0 (by rw [icells_length]; exact hi0)
      have e1 : (icells .i64 e)[i0]'(by rw [icells_length]; exact hi0) = .int .i64 (e.getD i0 0) := by simp [icells, List.getD_eq_getElem?_getD, List.getElem?_eq_getElem hi0]
      rw [e1] at hce
      generalize e.getD i0 0 = x0 at *
      clear e1 hs' hb2 HBW HOO HE HS
      go_wp2_with (at_builtin; refine wpList_append_1k (W := W) rfl (.tmp 33) (.tmp 38) 26 rfl W.heap.size 3 Tryz.underlying26 info_int rfl (by omega) rfl HOO2.out rfl rfl (by simp; rfl) ?c1 ?c2 HB2.out.size HB2.out ?_)
      case c1 => unfold maxLen; omega
      case c2 => omega
      · intro v3 w3 ho3 hb3 hsz3 hkp3
        have HE3 := hid (own_block HE2.out fun g c hg ho => (hkp3 g (Nat.le_trans HN.out.1 hg) (lt_of_block ho) (fun e9 => by have := HBK.out g e9; omega)).trans ho)
        have HO3 := hid ho3
        have HB3 := hid hb3
        have HLW : Hid (lessI e i0 e.length = e.eraseIdx i0) := hid (by unfold lessI; rw [List.take_length])
        have hnl : (e.eraseIdx i0).length = e.length - 1 := erase_len e i0 hi0
        have HNL := hid hnl
        have HI0 := hid hi0
        clear ho3 hb3 hkp3 HE2 HOO2 hce hnl
        go_wp2
        go_loopw [12, 13] (fun vv i wr' => ∃ j : Nat, j ≤ e.length ∧ i = .int .i64 (j : Int) ∧ Hid (wr'.ownsRow w3.heap.size 3 1 vv (lessI e i0 j).length (icells .i64 (lessI e i0 j))) ∧ Hid (Below w3.heap.size w3 wr')) (fun _ i _ => e.length - (intOf i).toNat)
        case atStart => exact ⟨0, by omega, rfl, by
          have h9 : lessI e i0 0 = [] := by simp [lessI]
          rw [Hid, h9]
          exact World.ownsRow_nil _ _ _ _, Below.refl _ _⟩
        case round =>
          obtain ⟨j, hj, rfl, HLO, HLB⟩ := hrel
          by_cases hlj : j < e.length
          · have hlj2 : (j : Int) < (e.length : Int) := by omega
            obtain ⟨ge2, oe2, hge, hce⟩ := Sl.at ((sl_own HE3.out).below HLB.out) j (by rw [icells_length]; exact hlj)
            cases hge
            have e1 : (icells .i64 e)[j]'(by rw [icells_length]; exact hlj) = .int .i64 (e[j]'hlj) := by simp [icells]
            rw [e1] at hce
            have HST := hid (fun h => lessI_step e i0 j hlj h)
            have hlz := lessI_len e i0 j
            generalize e[j]'hlj = y at hce HST
            clear e1
            by_cases hji : j = i0
            · have hd : ((j : Int) != (i0 : Int)) = false := by rw [hji]; simp
              have HX : Hid (lessI e i0 (j + 1) = lessI e i0 j) := hid (by rw [hji]; exact lessI_hit e i0 HI0.out)
              clear hji HST
              go_wp2
              go_roundw
              case rel => exact ⟨j + 1, by omega, by go_num, by rw [Hid, HX.out]; exact HLO.out, HLB.out⟩
              case measure => simp [intOf]; omega
            · have hd : ((j : Int) != (i0 : Int)) = true := by rw [bne_iff_ne]; omega
              have HX := hid (HST.out hji)
              clear hji HST
              generalize lessI e i0 j = le at *
              go_wp2_with (at_builtin; refine wpList_append_1 (W := w3) rfl (.tmp 49) (.tmp 54) 26 rfl w3.heap.size 3 Tryz.underlying26 info_int rfl (by omega) rfl HLO.out rfl rfl (by simp; rfl) ?c1 ?c2 HLB.out.size HLB.out ?_)
              case c1 => unfold maxLen; omega
              case c2 => omega
              · intro v' w' h2 h3 h4
                have HO5 := hid h2; clear h2
                go_wp2
                go_roundw
                case rel => exact ⟨j + 1, by omega, by go_num, by rw [Hid, HX.out, List.length_append, icells_append]; exact HO5.out, h3⟩
                case measure => simp [intOf]; omega
          · have hge : ¬ (j : Int) < (e.length : Int) := by omega
            have HLO2 : Hid (_) := hid HLO.out
            have hje : j = e.length := by omega
            have hlo := HLO.out
            rw [hje, HLW.out] at hlo
            obtain ⟨A9, c9, rfl, _⟩ := Sl.of_own hlo
            have HLO3 := hid hlo
            have HO4 := hid (own_keep HO3.out HLB.out)
            have HS4 := hid HS2.out
            clear hlo HLO HLO2 hje
            go_wp2
            go_roundw
            case rel => exact ⟨A', c', tl, out ++ [x0], e.eraseIdx i0, rfl, HNX.out, HS4.out, by rw [Hid, List.length_append, icells_append]; exact HO4.out, ⟨w3.heap.size, HB3.out.size, HLB.out.size, HLO3.out, fun g hg => own_blk_lt HO3.out hg⟩, HB3.out.trans (HLB.out.mono HB3.out.size)⟩
            case measure => have := HNL.out; simp only [lenV, Array.getD]; simp; omega
    · have HST : Hid (pk k.toNat l e0 = (out, ls)) := hid (HAT.out.stop (by omega))
      by_cases g1 : 0 < e.length
      · have g1' : (0 : Int) < (e.length : Int) := by omega
        have g2 : ¬ (out.length : Int) < k := fun h9 => hgo ⟨g1, h9⟩
        go_wp2
        go_ret2
        rw [HST.out]
        exact ⟨Ao, co, A0, c0, rfl, HOO.out, HS.out.1.below HB.out, HS.out.2, HB.out⟩
      · have g1' : ¬ (0 : Int) < (e.length : Int) := by omega
        have g3 : ¬ 0 < e.length := g1
        go_wp2
        go_ret2
        rw [HST.out]
        exact ⟨Ao, co, A0, c0, rfl, HOO.out, HS.out.1.below HB.out, HS.out.2, HB.out⟩
end Go.Proofs.YtgakobolhmdnnaaGreat
