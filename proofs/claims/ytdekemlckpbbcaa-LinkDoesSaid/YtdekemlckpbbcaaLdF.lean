/- Texts compared, outboxes and ends of the program compared: contracts. -/
import Derived.Test.YtdekemlckpbbcaaLdE
import Derived.Deep.QuietTactic
import Derived.BigQuiet
namespace Go.Proofs.Ytdekemlckpbbcaa
open Go.RowKit Go.Sort
set_option linter.unusedVariables false
set_option linter.unusedSimpArgs false

set_option maxHeartbeats 400000 in
theorem equal_str (A B : Option Addr) (len cap len' cap' : Nat) (l m : List (List UInt8)) (W : World) (hA : Sl W 1 A len cap (scells l)) (hB : Sl W 1 B len' cap' (scells m)) (h6 : len ≤ 9223372036854775807) (h7 : len' ≤ 9223372036854775807) :
    Calls Try.prog 85 #[.slice A len cap, .slice B len' cap'] W fun e w' => e = .returned (.bool (l == m)) ∧ ∃ q, w' = W.drewN q := by
  have hl : len = l.length := by have := hA.1; rw [scells_length] at this; omega
  have hm : len' = m.length := by have := hB.1; rw [scells_length] at this; omega
  subst hl hm
  by_cases hlen : l.length = m.length
  · have HA := hid (fun i hi => Sl.at hA i hi)
    have HB := hid (fun i hi => Sl.at hB i hi)
    clear hA hB
    have HL := hid hlen
    rw [← hlen]
    clear h7 hlen
    go_enter Try.func85, Try.ntmps85
    go_wp2
    go_loopw [13] (fun i wr => ∃ k q : Nat, k ≤ l.length ∧ i = .int .i64 (k : Int) ∧ wr = W.drewN q ∧ Hid (l.take k = m.take k)) (fun i _ => l.length - (intOf i).toNat)
    case atStart => exact ⟨0, 0, by omega, rfl, rfl, by simp [Hid]⟩
    case round =>
      obtain ⟨k, q, hk, rfl, rfl, HT⟩ := hrel
      by_cases hlt : k < l.length
      · obtain ⟨b, off, rfl, hc⟩ := HA.out k (by rw [scells_length]; exact hlt)
        obtain ⟨b2, off2, rfl, hc2⟩ := HB.out k (by rw [scells_length, ← HL.out]; exact hlt)
        have HL' := HL.out
        have e1 : (scells l)[k]'(by rw [scells_length]; exact hlt) = .string (str (l[k]'hlt)) := by simp [scells]
        have e2 : (scells m)[k]'(by rw [scells_length]; omega) = .string (str (m[k]'(by omega))) := by simp [scells]
        rw [e1] at hc
        rw [e2] at hc2
        have HE : Hid (l[k]'hlt = m[k]'(by omega) ↔ l.take (k + 1) = m.take (k + 1)) := by
          have h1 : l.take (k + 1) = l.take k ++ [l[k]'hlt] := by rw [List.take_add_one, List.getElem?_eq_getElem hlt]; rfl
          have h2 : m.take (k + 1) = m.take k ++ [m[k]'(by omega)] := by rw [List.take_add_one, List.getElem?_eq_getElem (by omega)]; rfl
          rw [Hid, h1, h2, HT.out]
          exact ⟨fun h => by rw [h], fun h => by simpa using List.append_cancel_left h⟩
        generalize l[k]'hlt = x at hc HE
        generalize m[k]'(by omega) = y at hc2 HE
        clear e1 e2 HL'
        have hlt2 : (k : Int) < (l.length : Int) := by omega
        by_cases hxy : x = y
        · have HE2 := hid (HE.out.1 hxy)
          clear HE
          subst hxy
          generalize str x = s at hc hc2
          have hne : (s.toList == s.toList) = true := by simp
          have hne2 : (s.toList != s.toList) = false := by simp
          go_wp2
          go_quiet (fail)
          go_wp2
          go_roundw
          case rel => exact ⟨k + 1, q + nq, by omega, by go_num, rfl, HE2.out⟩
          case measure => simp [intOf]; omega
        · have hz := str_ne hxy
          have hz2 : ((str x).toList == (str y).toList) = false := by simpa using hz
          have hz3 : ((str x).toList != (str y).toList) = true := by simpa using hz
          have HF : Hid ((l == m) = false) := by
            simp only [Hid, beq_eq_false_iff_ne, ne_eq]
            intro h
            exact hxy (HE.out.2 (by rw [h]))
          clear HE hxy
          generalize str x = s at hc hz hz2
          generalize str y = s2 at hc2 hz hz2
          go_wp2
          go_quiet (fail)
          go_wp2
          go_ret
          refine ⟨?_, q + nq, by simp⟩
          rw [HF.out]
          rfl
      · have HF : Hid ((l == m) = true) := by
          have h1 := HT.out
          rw [List.take_of_length_le (by omega), List.take_of_length_le (by have := HL.out; omega)] at h1
          simp [Hid, h1]
        have hge : ¬ (k : Int) < (l.length : Int) := by omega
        go_wp2
        go_ret
        refine ⟨?_, _, rfl⟩
        rw [HF.out]
        rfl
  · have HF : Hid ((l == m) = false) := by
      simp only [Hid, beq_eq_false_iff_ne, ne_eq]
      intro h
      exact hlen (by rw [h])
    rw [HF.out]
    have hne : ((l.length : Int) != (m.length : Int)) = true := by simp; omega
    clear HF hA hB h6 h7 hlen
    go_enter Try.func85, Try.ntmps85
    go_wp2
    go_ret
    exact ⟨rfl, 0, rfl⟩

set_option maxRecDepth 20000 in
theorem nsame_any (A B : Option Addr) (len cap len' cap' : Nat) (l m : List (List UInt8)) (W : World) (hA : Sl W 1 A len cap (scells l)) (hB : Sl W 1 B len' cap' (scells m)) (h6 : len ≤ 9223372036854775807) (h7 : len' ≤ 9223372036854775807) :
    Calls Try.prog 70 #[.slice A len cap, .slice B len' cap'] W fun e w' => e = .returned (.bool (l == m)) ∧ ∃ q, w' = W.drewN q := by
  have HE := hid (equal_str A B len cap len' cap' l m W hA hB h6 h7)
  clear hA hB h6 h7
  generalize (l == m) = lb at *
  go_enter Try.func70, Try.ntmps70
  go_wp2_with fail
  refine HE.out.mono ?_
  rintro e w2 ⟨rfl, q, rfl⟩
  clear HE
  go_wp2
  go_ret
  exact ⟨rfl, q, rfl⟩

set_option maxRecDepth 20000 in
theorem ssame_any (a b : Ov) (A B : Option Addr) (ca cb : Nat) (W : World) (hA : Sl W 1 A a.l.length ca (scells a.l)) (hB : Sl W 1 B b.l.length cb (scells b.l)) (h1 : a.l.length ≤ 1001) (h2 : b.l.length ≤ 1001) :
    Calls Try.prog 51 #[.agg (oc a A ca), .agg (oc b B cb)] W fun e w' => e = .returned (.bool (sameO a b)) ∧ Below W.heap.size W w' := by
  have HSM := hid (fun w (hw : Below W.heap.size W w) => nsame_any A B a.l.length ca b.l.length cb a.l b.l w (hA.below hw) (hB.below hw) (by omega) (by omega))
  have HV : Hid (sameO a b = (a.p == b.p && a.q == b.q && (a.w == b.w && a.f == b.f) && a.l == b.l)) := hid rfl
  obtain ⟨p, q, l, wt, fl⟩ := a
  obtain ⟨p', q', l', wt', fl'⟩ := b
  simp only at HSM HV
  clear hA hB h1 h2
  simp only [oc]
  generalize sameO _ _ = rv at *
  generalize (l == l') = lb at *
  by_cases c0 : p = p'
  case neg =>
    have b0 : (p == p') = false := by simpa using c0
    obtain rfl : rv = false := by rw [HV.out, b0]; rfl
    clear HV c0 HSM
    go_enter Try.func51, Try.ntmps51
    go_wp2
    go_ret
    exact ⟨rfl, below2 _ _ _⟩
  have b0 : (p == p') = true := by simpa using c0
  by_cases c1 : q = q'
  case neg =>
    have b1 : (q == q') = false := by simpa using c1
    obtain rfl : rv = false := by rw [HV.out, b0, b1]; rfl
    clear HV c0 c1 HSM
    go_enter Try.func51, Try.ntmps51
    go_wp2
    go_ret
    exact ⟨rfl, below2 _ _ _⟩
  have b1 : (q == q') = true := by simpa using c1
  by_cases c2 : wt = wt'
  case neg =>
    have b2 : (wt == wt') = false := by simpa using c2
    obtain rfl : rv = false := by rw [HV.out, b0, b1, b2]; rfl
    clear HV c0 c1 c2 HSM
    go_enter Try.func51, Try.ntmps51
    go_wp2
    go_ret
    exact ⟨rfl, below2 _ _ _⟩
  have b2 : (wt == wt') = true := by simpa using c2
  by_cases c3 : fl = fl'
  case neg =>
    have b3 : (fl == fl') = false := by simpa using c3
    obtain rfl : rv = false := by rw [HV.out, b0, b1, b2, b3]; rfl
    clear HV c0 c1 c2 c3 HSM
    go_enter Try.func51, Try.ntmps51
    go_wp2
    go_ret
    exact ⟨rfl, below2 _ _ _⟩
  have b3 : (fl == fl') = true := by simpa using c3
  obtain rfl : rv = lb := by rw [HV.out, b0, b1, b2, b3]; rfl
  clear HV c0 c1 c2 c3
  go_enter Try.func51, Try.ntmps51
  go_wp2_with fail
  refine (HSM.out _ (below2 _ _ _)).mono ?_
  rintro e w2 ⟨rfl, q5, rfl⟩
  clear HSM
  go_wp2
  go_ret
  exact ⟨rfl, below_dN (below2 _ _ _) q5⟩

set_option maxRecDepth 20000 in
set_option maxHeartbeats 1000000 in
theorem lsame_any (a b : Ev) (A B : Option Addr) (ca cb : Nat) (W : World) (hA : Sl W 1 A a.o.l.length ca (scells a.o.l)) (hB : Sl W 1 B b.o.l.length cb (scells b.o.l)) (h1 : a.o.l.length ≤ 1001) (h2 : b.o.l.length ≤ 1001) :
    Calls Try.prog 25 #[.agg (ec a A ca), .agg (ec b B cb)] W fun e w' => e = .returned (.bool (sameE a b)) ∧ Below W.heap.size W w' := by
  have HSM := hid (fun w (hw : Below W.heap.size W w) => ssame_any a.o b.o A B ca cb w (hA.below hw) (hB.below hw) h1 h2)
  have HV : Hid (sameE a b = (a.f == b.f && a.t == b.t && a.i == b.i && sameO a.o b.o && (a.m == b.m && a.p == b.p && a.l == b.l))) := hid rfl
  generalize sameE a b = rv at *
  generalize sameO a.o b.o = so at *
  obtain ⟨f, t, i, ⟨p, q, l, wt, fl⟩, m, gp, gl⟩ := a
  obtain ⟨f', t', i', ⟨p', q', l', wt', fl'⟩, m', gp', gl'⟩ := b
  simp only [oc] at HSM
  simp only at HV
  clear hA hB h1 h2
  simp only [ec]
  by_cases c0 : f = f'
  case neg =>
    have b0 : (f == f') = false := by simpa using c0
    obtain rfl : rv = false := by rw [HV.out, b0]; simp
    clear HV c0 HSM
    go_enter Try.func25, Try.ntmps25
    go_wp2
    go_ret
    exact ⟨rfl, below2 _ _ _⟩
  have b0 : (f == f') = true := by simpa using c0
  by_cases c1 : t = t'
  case neg =>
    have b1 : (t == t') = false := by simpa using c1
    obtain rfl : rv = false := by rw [HV.out, b0, b1]; simp
    clear HV c0 c1 HSM
    go_enter Try.func25, Try.ntmps25
    go_wp2
    go_ret
    exact ⟨rfl, below2 _ _ _⟩
  have b1 : (t == t') = true := by simpa using c1
  by_cases c2 : i = i'
  case neg =>
    have b2 : (i == i') = false := by simpa using c2
    obtain rfl : rv = false := by rw [HV.out, b0, b1, b2]; simp
    clear HV c0 c1 c2 HSM
    go_enter Try.func25, Try.ntmps25
    go_wp2
    go_ret
    exact ⟨rfl, below2 _ _ _⟩
  have b2 : (i == i') = true := by simpa using c2
  by_cases c3 : m = m'
  case neg =>
    have b3 : (m == m') = false := by simpa using c3
    obtain rfl : rv = false := by rw [HV.out, b0, b1, b2, b3]; simp
    clear HV c0 c1 c2 c3 HSM
    go_enter Try.func25, Try.ntmps25
    go_wp2
    go_ret
    exact ⟨rfl, below2 _ _ _⟩
  have b3 : (m == m') = true := by simpa using c3
  by_cases c4 : gp = gp'
  case neg =>
    have b4 : (gp == gp') = false := by simpa using c4
    obtain rfl : rv = false := by rw [HV.out, b0, b1, b2, b3, b4]; simp
    clear HV c0 c1 c2 c3 c4 HSM
    go_enter Try.func25, Try.ntmps25
    go_wp2
    go_ret
    exact ⟨rfl, below2 _ _ _⟩
  have b4 : (gp == gp') = true := by simpa using c4
  by_cases c5 : gl = gl'
  case neg =>
    have b5 : (gl == gl') = false := by simpa using c5
    obtain rfl : rv = false := by rw [HV.out, b0, b1, b2, b3, b4, b5]; simp
    clear HV c0 c1 c2 c3 c4 c5 HSM
    go_enter Try.func25, Try.ntmps25
    go_wp2
    go_ret
    exact ⟨rfl, below2 _ _ _⟩
  have b5 : (gl == gl') = true := by simpa using c5
  obtain rfl : rv = so := by rw [HV.out, b0, b1, b2, b3, b4, b5]; simp
  clear HV c0 c1 c2 c3 c4 c5
  go_enter Try.func25, Try.ntmps25
  go_wp2_with fail
  refine (HSM.out _ (below2 _ _ _)).mono ?_
  rintro e w2 ⟨rfl, hb2⟩
  have HB := hid (below_tr hb2)
  clear HSM hb2
  go_wp2
  go_ret
  exact ⟨rfl, HB.out⟩
end Go.Proofs.Ytdekemlckpbbcaa
