/- The document's Part, Text0 of layer 11: contracts. -/
import Derived.Test.YtdphdodjidbngaaShQ
import Derived.Test.YtdphdodjidbngaaNeQ
namespace Go.Proofs.Ytdphdodjidbngaa
open Go.RowKit
set_option linter.unusedVariables false
set_option linter.unusedSimpArgs false

/-- In parentheses, if the operator is one of two. -/
def par2 (op a b : Int) (s : List UInt8) : List UInt8 := if op = a ∨ op = b then 40 :: (s ++ [41]) else s
theorem par2_45 (op : Int) (s : List UInt8) : par2 op 4 5 s = parS op [4, 5] s := by simp [par2, parS]
theorem par2_55 (op : Int) (s : List UInt8) : par2 op 5 5 s = parS op [5] s := by simp [par2, parS]
theorem par2_00 (op : Int) (s : List UInt8) (h : op ≠ 0) : par2 op 0 0 s = parS op [] s := by simp [par2, parS, h]
theorem last_ne {t : Nt} (h : t.wf) : (lastN t).1 ≠ 0 := by
  cases t with
  | yes => simp [lastN]
  | attr n => simp [lastN]
  | not t => simp [lastN]
  | pair op a b => have h1 := h.1; simp [lastN]; omega
theorem op_at {u : World} {A : Option Addr} {cap : Nat} {l pre post : List (Int × Int)} {t : Nt} {e : Nat} (hS : Sl u 2 A l.length cap (pcells l)) (hl : l = pre ++ (t.flat ++ post)) (he : e + 1 = pre.length + t.flat.length) : e < l.length ∧ ∃ bb off, A = some ⟨bb, off, none⟩ ∧ u.cell? ⟨bb, off + e * 2, none⟩ = some (.int .i64 (lastN t).1) := by
  obtain ⟨h3, h4⟩ := last_at t pre post e he
  subst hl
  obtain ⟨bb, off, h1, h2, _⟩ := hS.at2 e h3
  rw [h4] at h2
  exact ⟨h3, bb, off, h1, h2⟩
set_option maxRecDepth 20000 in
set_option maxHeartbeats 2000000 in
theorem rpart_step (TA : Option Addr) (tc tn : Nat) (s : List UInt8) (op a b : Int) (A : Option Addr) (len cap : Nat) (e : Nat) (W : World) (hA : ∀ u, Below W.heap.size W u → ∃ bb off, A = some ⟨bb, off, none⟩ ∧ u.cell? ⟨bb, off + e * 2, none⟩ = some (.int .i64 op)) (he : e < len) (hs : s.length ≤ 1000000)
    (hT : Calls Try.prog 42 #[.slice TA tn tc, .slice A len cap, .int .i64 (e : Int)] W fun e w' => e = .returned (.string (str s)) ∧ Below W.heap.size W w') :
    Calls Try.prog 69 #[.slice TA tn tc, .slice A len cap, .int .i64 (e : Int), .int .i64 a, .int .i64 b] W fun e w' => e = .returned (.string (str (par2 op a b s))) ∧ Below W.heap.size W w' := by
  have HT := hid hT
  have HA := hid hA
  have HV : Hid (par2 op a b s = if op = a ∨ op = b then 40 :: (s ++ [41]) else s) := hid rfl
  have he2 : (e : Int) < (len : Int) := by omega
  have he0 : ¬ (e : Int) < 0 := by omega
  clear hT hA
  generalize par2 op a b s = R at *
  go_enter Try.func69, Try.ntmps69
  go_wp2_with fail
  refine HT.out.mono ?_
  rintro x w1 ⟨rfl, hb⟩
  have HB := hid hb
  obtain ⟨bA, oA, hAe, q0⟩ := HA.out w1 hb
  subst hAe
  clear hb HT HA
  have hsz1 : (⟨#[40]⟩ : ByteArray).size + (str s).size ≤ 9223372036854775807 := by rw [str_size]; show 1 + s.length ≤ _; omega
  have hsz2 : ((⟨#[40]⟩ : ByteArray) ++ str s).size + (⟨#[41]⟩ : ByteArray).size ≤ 9223372036854775807 := by
    rw [show (⟨#[40]⟩ : ByteArray) = str [40] from rfl, str_cat, str_size]
    show (40 :: s).length + 1 ≤ _
    rw [List.length_cons]; omega
  by_cases h1 : op = a
  · have HE : Hid (R = 40 :: (s ++ [41])) := hid (by rw [HV.out, if_pos (.inl h1)])
    subst h1
    clear HV
    go_wp2
    go_ret
    exact ⟨by rw [HE.out, ← par_eq]; rfl, HB.out⟩
  · have e1 : (op == a) = false := by simpa using h1
    by_cases h2 : op = b
    · have HE : Hid (R = 40 :: (s ++ [41])) := hid (by rw [HV.out, if_pos (.inr h2)])
      subst h2
      clear HV
      go_wp2
      go_ret
      exact ⟨by rw [HE.out, ← par_eq]; rfl, HB.out⟩
    · have e2 : (op == b) = false := by simpa using h2
      have HE : Hid (R = s) := hid (by rw [HV.out, if_neg (by rintro (h | h); exact h1 h; exact h2 h)])
      clear HV
      go_wp2
      go_ret
      exact ⟨by rw [HE.out]; rfl, HB.out⟩

set_option maxRecDepth 20000 in
set_option maxHeartbeats 8000000 in
theorem rtext_any (TA : Option Addr) (tc : Nat) (T : List (List UInt8)) (h100 : ∀ s ∈ T, s.length ≤ 100) (A : Option Addr) (cap : Nat) (l : List (Int × Int)) (W0 : World) (hT : Sl W0 1 TA T.length tc (scells T)) (h : Sl W0 2 A l.length cap (pcells l)) (hl : l.length ≤ 1000) :
    ∀ (t : Nt) (pre post : List (Int × Int)) (e : Nat) (W : World), Below W0.heap.size W0 W → t.wf → inT T.length t → l = pre ++ (t.flat ++ post) → e + 1 = pre.length + t.flat.length →
    Calls Try.prog 42 #[.slice TA T.length tc, .slice A l.length cap, .int .i64 (e : Int)] W fun x w' => x = .returned (.string (str (txt T t))) ∧ Below W.heap.size W w' := by
  intro t
  have HS := hid (fun w (hw : Below W0.heap.size W0 w) => h.below hw)
  have HT := hid (fun w (hw : Below W0.heap.size W0 w) => hT.below hw)
  have HTL := hid (fun t => txt_len T h100 t)
  have hl9 : (l.length : Int) ≤ 1000 := by omega
  clear h hT h100
  induction t with
  | yes =>
    intro pre post e W hb hw hin hl0 he
    obtain ⟨h1, h2⟩ := last_at (.yes) pre post e he
    have hlt : e < l.length := by rw [hl0]; exact h1
    obtain ⟨bb, off, hAe, hc0, hc1⟩ := (HS.out W hb).at2 e hlt
    have hx : l[e] = (1, 0) := by simp only [hl0]; exact h2
    rw [hx] at hc0 hc1
    simp only at hc0 hc1
    have he3 : ((e : Nat) : Int) < (l.length : Int) := by omega
    subst hAe
    clear hx HS HT hl0 h2 h1 hlt hw hb he hin
    go_enter Try.func42, Try.ntmps42
    go_upto_region 2 with (fail)
    refine at_world (fun u => u.heap[W.heap.size]? = some (.cells #[.int .i64 1, .int .i64 0] 77 (0, 0)) ∧ Below W.heap.size W u) ⟨heap_alloc_new _ _, bel_alloc (Below.refl _ _) _⟩ ?_
    clear hc0 hc1
    rintro w1 ⟨hx, hb⟩
    have HX1 := hid hx
    have HB1 := hid hb
    clear hx hb
    generalize hX : W.heap.size = X at HX1
    clear hX
    obtain ⟨p0, p1, pf0, pf1⟩ := two_cells HX1.out
    go_wp2_with fail
    go_ret
    exact ⟨rfl, HB1.out⟩
  | attr n =>
    intro pre post e W hb hw hin hl0 he
    obtain ⟨k, rfl⟩ := Int.eq_ofNat_of_zero_le hin.1
    have hk : k < T.length := by have := hin.2; rwa [Int.toNat_natCast] at this
    have hk2 : (k : Int) < (T.length : Int) := by omega
    have HTW := hid (fun u (hu : Below W.heap.size W u) => HT.out u (hb.trans (hu.mono hb.size)))
    obtain ⟨h1, h2⟩ := last_at (.attr k) pre post e he
    have hlt : e < l.length := by rw [hl0]; exact h1
    obtain ⟨bb, off, hAe, hc0, hc1⟩ := (HS.out W hb).at2 e hlt
    have hx : l[e] = (2, (k : Int)) := by simp only [hl0]; exact h2
    rw [hx] at hc0 hc1
    simp only at hc0 hc1
    have he3 : ((e : Nat) : Int) < (l.length : Int) := by omega
    subst hAe
    clear hx HS HT hl0 h2 h1 hlt hw hb he hin
    go_enter Try.func42, Try.ntmps42
    go_upto_region 2 with (fail)
    refine at_world (fun u => u.heap[W.heap.size]? = some (.cells #[.int .i64 2, .int .i64 (k : Int)] 77 (0, 0)) ∧ Below W.heap.size W u) ⟨heap_alloc_new _ _, bel_alloc (Below.refl _ _) _⟩ ?_
    clear hc0 hc1
    rintro w1 ⟨hx, hb⟩
    have HX1 := hid hx
    have HB1 := hid hb
    clear hx hb
    generalize hX : W.heap.size = X at HX1
    clear hX
    obtain ⟨p0, p1, pf0, pf1⟩ := two_cells HX1.out
    obtain ⟨bT, oT, hTe, t0⟩ := txt_cell (HTW.out w1 HB1.out) k hk
    subst hTe
    obtain ⟨sx, hsx⟩ : ∃ sx, T.getD k [] = sx := ⟨_, rfl⟩
    have HTX : Hid (txt T (.attr (k : Int)) = sx) := hid (by rw [txt, Int.toNat_natCast, hsx])
    rw [hsx] at t0
    clear hsx
    go_wp2_with fail
    go_ret
    exact ⟨by rw [HTX.out]; rfl, HB1.out⟩
  | not t ih =>
    intro pre post e W hb hw hin hl0 he
    have hp := t.flat_pos
    obtain ⟨e', rfl⟩ : ∃ e', e = e' + 1 := ⟨e - 1, by simp [Nt.flat] at he; omega⟩
    have hl1 : l = pre ++ (t.flat ++ ([(3, 0)] ++ post)) := by rw [hl0]; simp [Nt.flat]
    have he1 : e' + 1 = pre.length + t.flat.length := by simp [Nt.flat] at he; omega
    have hft : t.flat.length ≤ 1000 := by rw [hl1] at hl; simp at hl; omega
    have HR := hid (fun u (hu : Below W.heap.size W u) => rpart_step TA tc T.length (txt T t) (lastN t).1 4 5 A l.length cap e' u (fun v hv => (op_at (HS.out v (hb.trans ((hu.trans (hv.mono hu.size)).mono hb.size))) hl1 he1).2) (op_at (HS.out u (hb.trans (hu.mono hb.size))) hl1 he1).1 (by have := HTL.out t; omega) (ih pre ([(3, 0)] ++ post) e' u (hb.trans (hu.mono hb.size)) hw hin hl1 he1))
    rw [par2_45] at HR
    have HTX : Hid (txt T (.not t) = 33 :: parS (lastN t).1 [4, 5] (txt T t)) := hid rfl
    have hrl : (parS (lastN t).1 [4, 5] (txt T t)).length ≤ 1000000 := by have h8 := parS_len (lastN t).1 [4, 5] (txt T t); have h9 := HTL.out t; omega
    obtain ⟨h1, h2⟩ := last_at (.not t) pre post (e' + 1) he
    have hlt : (e' + 1) < l.length := by rw [hl0]; exact h1
    obtain ⟨bb, off, hAe, hc0, hc1⟩ := (HS.out W hb).at2 (e' + 1) hlt
    have hx : l[(e' + 1)] = (3, 0) := by simp only [hl0]; exact h2
    rw [hx] at hc0 hc1
    simp only at hc0 hc1
    have he3 : (((e' + 1) : Nat) : Int) < (l.length : Int) := by omega
    subst hAe
    clear hx HS HT hl0 h2 h1 hlt hw hb he hin
    obtain ⟨RR, hRR⟩ : ∃ RR, txt T (.not t) = RR := ⟨_, rfl⟩
    rw [hRR] at HTX ⊢
    clear hRR ih hl1 he1 hp hft
    generalize parS (lastN t).1 [4, 5] (txt T t) = r at *
    have hz : (⟨#[33]⟩ : ByteArray).size + (str r).size ≤ 9223372036854775807 := by rw [str_size]; show 1 + r.length ≤ _; omega
    go_enter Try.func42, Try.ntmps42
    go_upto_region 2 with (fail)
    refine at_world (fun u => u.heap[W.heap.size]? = some (.cells #[.int .i64 3, .int .i64 0] 77 (0, 0)) ∧ Below W.heap.size W u) ⟨heap_alloc_new _ _, bel_alloc (Below.refl _ _) _⟩ ?_
    clear hc0 hc1
    rintro w1 ⟨hx, hb⟩
    have HX1 := hid hx
    have HB1 := hid hb
    clear hx hb
    generalize hX : W.heap.size = X at HX1
    clear hX
    obtain ⟨p0, p1, pf0, pf1⟩ := two_cells HX1.out
    go_wp2_with fail
    refine (HR.out _ HB1.out).mono ?_
    rintro x w2 ⟨rfl, hb2⟩
    have HB2 := hid (HB1.out.trans (hb2.mono HB1.out.size))
    clear hb2 HB1 HR
    go_wp2
    go_ret
    exact ⟨by rw [HTX.out, show (⟨#[33]⟩ : ByteArray) = str [33] from rfl, str_cat]; rfl, HB2.out⟩
  | pair op a b iha ihb =>
    intro pre post e W hb hw hin hl0 he
    have hp := a.flat_pos
    have hq := b.flat_pos
    obtain ⟨e2, rfl⟩ : ∃ e', e = e' + 1 := ⟨e - 1, by simp [Nt.flat] at he; omega⟩
    obtain ⟨e1, he1⟩ : ∃ e1, e1 + 1 = pre.length + a.flat.length := ⟨pre.length + a.flat.length - 1, by omega⟩
    have he2 : e2 + 1 = (pre ++ a.flat).length + b.flat.length := by simp [Nt.flat] at he ⊢; omega
    have hla : l = pre ++ (a.flat ++ (b.flat ++ ([(op, 0)] ++ post))) := by rw [hl0]; simp [Nt.flat]
    have hlb : l = (pre ++ a.flat) ++ (b.flat ++ ([(op, 0)] ++ post)) := by rw [hl0]; simp [Nt.flat]
    have hfa : a.flat.length ≤ 1000 := by rw [hla] at hl; simp at hl; omega
    have hfb : b.flat.length ≤ 1000 := by rw [hlb] at hl; simp at hl; omega
    have HRb := hid (fun p q u (hu : Below W.heap.size W u) => rpart_step TA tc T.length (txt T b) (lastN b).1 p q A l.length cap e2 u (fun v hv => (op_at (HS.out v (hb.trans ((hu.trans (hv.mono hu.size)).mono hb.size))) hlb he2).2) (op_at (HS.out u (hb.trans (hu.mono hb.size))) hlb he2).1 (by have := HTL.out b; omega) (ihb (pre ++ a.flat) ([(op, 0)] ++ post) e2 u (hb.trans (hu.mono hb.size)) hw.2.2 hin.2 hlb he2))
    have HRa := hid (fun p q u (hu : Below W.heap.size W u) => rpart_step TA tc T.length (txt T a) (lastN a).1 p q A l.length cap e1 u (fun v hv => (op_at (HS.out v (hb.trans ((hu.trans (hv.mono hu.size)).mono hb.size))) hla he1).2) (op_at (HS.out u (hb.trans (hu.mono hb.size))) hla he1).1 (by have := HTL.out a; omega) (iha pre (b.flat ++ ([(op, 0)] ++ post)) e1 u (hb.trans (hu.mono hb.size)) hw.2.1 hin.1 hla he1))
    have HBG := hid (fun u (hu : Below W.heap.size W u) => begin_any A cap l e2 u (HS.out u (hb.trans (hu.mono hb.size))) hl (by have := (op_at (HS.out u (hb.trans (hu.mono hb.size))) hlb he2).1; exact this))
    have hbg : beginN l (e2 + 1) = ((e1 + 1 : Nat) : Int) := by
      rw [hlb, he2, begin_flat _ _ _ hw.2.2, he1]
      simp
    rw [hbg] at HBG
    have he19 : (e1 : Int) ≤ 1000 := by have := (op_at (HS.out W hb) hla he1).1; omega
    have hop := hw.1
    have hna := last_ne hw.2.1
    have hlla : ∀ ops, (parS (lastN a).1 ops (txt T a)).length ≤ 1000000 := fun ops => by have h8 := parS_len (lastN a).1 ops (txt T a); have h9 := HTL.out a; omega
    have hllb : ∀ ops, (parS (lastN b).1 ops (txt T b)).length ≤ 1000000 := fun ops => by have h8 := parS_len (lastN b).1 ops (txt T b); have h9 := HTL.out b; omega
    obtain ⟨h1, h2⟩ := last_at (.pair op a b) pre post (e2 + 1) he
    have hlt : (e2 + 1) < l.length := by rw [hl0]; exact h1
    obtain ⟨bb, off, hAe, hc0, hc1⟩ := (HS.out W hb).at2 (e2 + 1) hlt
    have hx : l[(e2 + 1)] = (op, 0) := by simp only [hl0]; exact h2
    rw [hx] at hc0 hc1
    simp only at hc0 hc1
    have he3 : (((e2 + 1) : Nat) : Int) < (l.length : Int) := by omega
    subst hAe
    clear hx HS HT hl0 h2 h1 hlt hw hb he hin
    clear iha ihb hla hlb hfa hfb hbg he1 he2 hp hq
    rw [show ((e1 + 1 : Nat) : Int) = (e1 : Int) + 1 by omega] at HBG
    rcases hop with rfl | rfl
    · skip
      have HTX : Hid (txt T (.pair 4 a b) = (parS (lastN a).1 [5] (txt T a) ++ [32, 38, 32]) ++ parS (lastN b).1 [4, 5] (txt T b)) := hid (by rw [txt]; first | rw [if_pos rfl] | rw [if_neg (by decide)])
      have HRA := hid (HRa.out 5 5)
      have HRB := hid (HRb.out 4 5)
      rw [par2_55] at HRA
      rw [par2_45] at HRB
      have HLA := hid (hlla [5])
      have HLB := hid (hllb [4, 5])
      obtain ⟨RR, hRR⟩ : ∃ RR, txt T (.pair 4 a b) = RR := ⟨_, rfl⟩
      rw [hRR] at HTX ⊢
      clear hRR HRa HRb hlla hllb hna
      generalize parS (lastN a).1 [5] (txt T a) = ra at *
      generalize parS (lastN b).1 [4, 5] (txt T b) = rb at *
      have hz1 : (str ra).size + (⟨#[32, 38, 32]⟩ : ByteArray).size ≤ 9223372036854775807 := by have := HLA.out; rw [str_size]; show ra.length + 3 ≤ _; omega
      have hz2 : (str ra ++ (⟨#[32, 38, 32]⟩ : ByteArray)).size + (str rb).size ≤ 9223372036854775807 := by
        have h1 := HLA.out
        have h2 := HLB.out
        rw [show (⟨#[32, 38, 32]⟩ : ByteArray) = str [32, 38, 32] from rfl, str_cat, str_size, str_size, List.length_append]
        show ra.length + 3 + rb.length ≤ _
        omega
      go_enter Try.func42, Try.ntmps42
      go_upto_region 2 with (fail)
      refine at_world (fun u => u.heap[W.heap.size]? = some (.cells #[.int .i64 4, .int .i64 0] 77 (0, 0)) ∧ Below W.heap.size W u) ⟨heap_alloc_new _ _, bel_alloc (Below.refl _ _) _⟩ ?_
      clear hc0 hc1
      rintro w1 ⟨hx, hb⟩
      have HX1 := hid hx
      have HB1 := hid hb
      clear hx hb
      generalize hX : W.heap.size = X at HX1
      clear hX
      obtain ⟨p0, p1, pf0, pf1⟩ := two_cells HX1.out
      go_wp2_with fail
      refine (HBG.out _ HB1.out).mono ?_
      rintro x w2 ⟨rfl, rfl⟩
      go_wp2_with fail
      refine (HRA.out _ HB1.out).mono ?_
      rintro x w3 ⟨rfl, hb3⟩
      have HB3 := hid (HB1.out.trans (hb3.mono HB1.out.size))
      have K3 := hid (keep0 HX1.out hb3)
      clear hb3 HRA p0 p1 pf0 pf1
      obtain ⟨p0, p1, pf0, pf1⟩ := two_cells K3.out
      go_wp2_with fail
      refine (HRB.out _ HB3.out).mono ?_
      rintro x w4 ⟨rfl, hb4⟩
      have HB4 := hid (HB3.out.trans (hb4.mono HB3.out.size))
      clear hb4 HRB p0 p1 pf0 pf1 K3 HX1 HB1
      go_wp2
      go_ret
      exact ⟨by rw [HTX.out, show (⟨#[32, 38, 32]⟩ : ByteArray) = str [32, 38, 32] from rfl, str_cat, str_cat]; rfl, HB4.out⟩
    · skip
      have HTX : Hid (txt T (.pair 5 a b) = (parS (lastN a).1 [] (txt T a) ++ [32, 124, 32]) ++ parS (lastN b).1 [5] (txt T b)) := hid (by rw [txt]; first | rw [if_pos rfl] | rw [if_neg (by decide)])
      have HRA := hid (HRa.out 0 0)
      have HRB := hid (HRb.out 5 5)
      rw [par2_00 _ _ hna] at HRA
      rw [par2_55] at HRB
      have HLA := hid (hlla [])
      have HLB := hid (hllb [5])
      obtain ⟨RR, hRR⟩ : ∃ RR, txt T (.pair 5 a b) = RR := ⟨_, rfl⟩
      rw [hRR] at HTX ⊢
      clear hRR HRa HRb hlla hllb hna
      generalize parS (lastN a).1 [] (txt T a) = ra at *
      generalize parS (lastN b).1 [5] (txt T b) = rb at *
      have hz1 : (str ra).size + (⟨#[32, 124, 32]⟩ : ByteArray).size ≤ 9223372036854775807 := by have := HLA.out; rw [str_size]; show ra.length + 3 ≤ _; omega
      have hz2 : (str ra ++ (⟨#[32, 124, 32]⟩ : ByteArray)).size + (str rb).size ≤ 9223372036854775807 := by
        have h1 := HLA.out
        have h2 := HLB.out
        rw [show (⟨#[32, 124, 32]⟩ : ByteArray) = str [32, 124, 32] from rfl, str_cat, str_size, str_size, List.length_append]
        show ra.length + 3 + rb.length ≤ _
        omega
      go_enter Try.func42, Try.ntmps42
      go_upto_region 2 with (fail)
      refine at_world (fun u => u.heap[W.heap.size]? = some (.cells #[.int .i64 5, .int .i64 0] 77 (0, 0)) ∧ Below W.heap.size W u) ⟨heap_alloc_new _ _, bel_alloc (Below.refl _ _) _⟩ ?_
      clear hc0 hc1
      rintro w1 ⟨hx, hb⟩
      have HX1 := hid hx
      have HB1 := hid hb
      clear hx hb
      generalize hX : W.heap.size = X at HX1
      clear hX
      obtain ⟨p0, p1, pf0, pf1⟩ := two_cells HX1.out
      go_wp2_with fail
      refine (HBG.out _ HB1.out).mono ?_
      rintro x w2 ⟨rfl, rfl⟩
      go_wp2_with fail
      refine (HRA.out _ HB1.out).mono ?_
      rintro x w3 ⟨rfl, hb3⟩
      have HB3 := hid (HB1.out.trans (hb3.mono HB1.out.size))
      have K3 := hid (keep0 HX1.out hb3)
      clear hb3 HRA p0 p1 pf0 pf1
      obtain ⟨p0, p1, pf0, pf1⟩ := two_cells K3.out
      go_wp2_with fail
      refine (HRB.out _ HB3.out).mono ?_
      rintro x w4 ⟨rfl, hb4⟩
      have HB4 := hid (HB3.out.trans (hb4.mono HB3.out.size))
      clear hb4 HRB p0 p1 pf0 pf1 K3 HX1 HB1
      go_wp2
      go_ret
      exact ⟨by rw [HTX.out, show (⟨#[32, 124, 32]⟩ : ByteArray) = str [32, 124, 32] from rfl, str_cat, str_cat]; rfl, HB4.out⟩
end Go.Proofs.Ytdphdodjidbngaa
