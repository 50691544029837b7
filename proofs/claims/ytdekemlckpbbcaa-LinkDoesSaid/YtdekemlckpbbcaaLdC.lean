/- The document's outbox: Acked: contract. -/
import Derived.Test.YtdekemlckpbbcaaLdB
namespace Go.Proofs.Ytdekemlckpbbcaa
open Go.RowKit Go.Sort
set_option linter.unusedVariables false
set_option linter.unusedSimpArgs false

theorem scells_tail (y : List UInt8) (r : List (List UInt8)) : (scells (y :: r)).drop (1 * 1) = scells r := by simp [scells]
set_option maxRecDepth 20000 in
theorem r24acked_any (o : Ov) (pr sq : Int) (A : Option Addr) (c : Nat) (W : World) (h : Sl W 1 A o.l.length c (scells o.l)) (hl : o.l.length ≤ 1000) (hq : o.q < 9223372036854775807) (hq0 : -9223372036854775808 ≤ o.q) :
    Calls Try.prog 58 #[.agg (oc o A c), .int .i64 pr, .int .i64 sq] W (ROut (ackV o pr sq) W) := by
  have HS := hid h
  have HV : Hid (ackV o pr sq = if o.l = [] ∨ pr ≠ o.p ∨ sq ≠ o.q then (o, false) else if o.l.tail.length = 0 then (⟨o.p, o.q + 1, o.l.tail, 1, 0⟩, false) else (⟨o.p, o.q + 1, o.l.tail, 1, 1⟩, true)) := hid (by
    unfold ackV begV
    split
    · rfl
    · split <;> rfl)
  have hwr : IntKind.i64.wrap (o.q + 1) = o.q + 1 := by simp [IntKind.wrap, IntKind.bits, IntKind.signed]; omega
  have HW := hid hwr
  obtain ⟨p, q, l, wt, fl⟩ := o
  simp only at HV HS hl HW
  clear h hwr hq hq0
  simp only [oc]
  cases l with
  | nil =>
    rw [HV.out, if_pos (.inl rfl)]
    clear HV HW
    go_enter Try.func58, Try.ntmps58
    go_wp2
    exact bodyPost_ret (v := .tuple #[.agg #[.int .i64 p, .int .i64 q, .slice A 0 c, .int .i64 wt, .int .i64 fl], .bool false]) (by simp [results, Try.results58, go_sem]) rfl ⟨A, c, rfl, HS.out.below (below2 _ _ _), below2 _ _ _⟩
  | cons y r =>
  have hrl : r.length + 1 ≤ 1000 := by simpa using hl
  have HTL := hid (show Sl W 1 (dropA A c 1 1) (r.length + 1 - 1) (c - 1) (scells r) by
    have h9 := (HS.out).drop 1 (by simp)
    rw [scells_tail] at h9
    exact h9)
  have hsc := HS.out
  rw [List.length_cons] at hsc
  have hcl : r.length + 1 ≤ c := hsc.2.1
  have hrun : ∀ w : World, (Instr.slice 24 (.slice A (r.length + 1) c) (some (.int .i64 1)) none none).run Try.prog w = .ok (.slice (dropA A c 1 1) (r.length + 1 - 1) (c - 1)) w := fun w => run_from Try.underlying24 info_str A (r.length + 1) c 1 (by omega) w
  have HRUN := hid hrun
  have HSC := hid hsc
  have e0 : (((r.length + 1 : Nat) : Int) == 0) = false := beq_eq_false_iff_ne.2 (by omega)
  rw [List.length_cons]
  clear hrun hsc HS hl
  generalize hL : r.length + 1 = L at *
  by_cases h1 : pr = p
  case neg =>
    rw [HV.out, if_pos (.inr (.inl h1))]
    have d1 : (pr != p) = true := by simpa using h1
    clear HV HW h1 HRUN HTL
    go_enter Try.func58, Try.ntmps58
    go_wp2
    exact bodyPost_ret (v := .tuple #[.agg #[.int .i64 p, .int .i64 q, .slice A L c, .int .i64 wt, .int .i64 fl], .bool false]) (by simp [results, Try.results58, go_sem]) rfl ⟨A, c, (by subst hL; rfl), (by subst hL; exact HSC.out.below (below2 _ _ _)), below2 _ _ _⟩
  have d1 : (pr != p) = false := by simpa using h1
  by_cases h2 : sq = q
  case neg =>
    rw [HV.out, if_pos (.inr (.inr h2))]
    have d2 : (sq != q) = true := by simpa using h2
    clear HV HW h1 h2 HRUN HTL
    go_enter Try.func58, Try.ntmps58
    go_wp2
    exact bodyPost_ret (v := .tuple #[.agg #[.int .i64 p, .int .i64 q, .slice A L c, .int .i64 wt, .int .i64 fl], .bool false]) (by simp [results, Try.results58, go_sem]) rfl ⟨A, c, (by subst hL; rfl), (by subst hL; exact HSC.out.below (below2 _ _ _)), below2 _ _ _⟩
  have d2 : (sq != q) = false := by simpa using h2
  rw [HV.out, if_neg (by simp [h1, h2])]
  have hrun := HRUN.out
  have hwr := HW.out
  have hL1 : L - 1 = r.length := by omega
  rw [hL1] at hrun
  have HT2 := HTL.out
  rw [hL1] at HT2
  replace HT2 := hid HT2
  clear HV HW h1 h2 HRUN HTL HSC hL1 hL hrl
  generalize dropA A c 1 1 = A' at *
  generalize c - 1 = c' at *
  by_cases h0 : r.length = 0
  · rw [if_pos (show (y :: r).tail.length = 0 from h0)]
    obtain rfl := List.eq_nil_of_length_eq_zero h0
    clear h0
    go_enter Try.func58, Try.ntmps58
    go_wp2
    exact bodyPost_ret (v := .tuple #[.agg #[.int .i64 p, .int .i64 (q + 1), .slice A' 0 c', .int .i64 1, .int .i64 0], .bool false]) (by simp [results, Try.results58, go_sem]) rfl ⟨A', c', rfl, HT2.out.below (below2 _ _ _), below2 _ _ _⟩
  · rw [if_neg (show ¬ (y :: r).tail.length = 0 from h0)]
    have e1 : ((r.length : Int) == 0) = false := beq_eq_false_iff_ne.2 (by omega)
    clear h0
    go_enter Try.func58, Try.ntmps58
    go_wp2
    exact bodyPost_ret (v := .tuple #[.agg #[.int .i64 p, .int .i64 (q + 1), .slice A' r.length c', .int .i64 1, .int .i64 1], .bool true]) (by simp [results, Try.results58, go_sem]) rfl ⟨A', c', rfl, HT2.out.below (below2 _ _ _), below2 _ _ _⟩

end Go.Proofs.Ytdekemlckpbbcaa
