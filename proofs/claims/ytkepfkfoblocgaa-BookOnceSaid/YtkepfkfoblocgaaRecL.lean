/- A reader whose bytes lie below it: its methods again; rec.take. -/
import Derived.Test.YtkepfkfoblocgaaRecF
import Derived.Test.YtkepfkfoblocgaaOctE
namespace Go.Proofs.Ytkepfkfoblocgaa
open Go.RowKit
set_option linter.unusedVariables false
set_option linter.unusedSimpArgs false

theorem own_blk_lt {w : World} {base e s n : Nat} {v : Value} {xs : List Value} (h : w.ownsRow base e s v n xs) : ∀ g, v.ownBlock = some g → g < w.heap.size := by
  intro g hg
  rcases h.2 with ⟨rfl, _⟩ | ⟨g', cap, cur, rfl, _, hh, _⟩
  · simp [Value.ownBlock] at hg
  · have : g' = g := by simpa [Value.ownBlock] using hg
    subst this
    exact lt_of_block hh
def takeS (hb : Bool) (least : Int) (most : Int) (l : List UInt8) (e : Int) : Nat × List UInt8 × Int :=
  if hb then (if ((rdNum most l e).1 : Int) < least then ((rdNum most l e).1, (rdNum most l e).2.1, rdFail 3 (rdNum most l e).2.2) else rdNum most l e) else (0, l, e)
/-- A reader whose bytes lie in a block below its own. -/
def RdrB (w : World) (B : Nat) (l : List UInt8) (e : Int) : Prop :=
  ∃ a cap, w.heap[B]? = some (.cells #[.slice a l.length cap, .int .i64 e] 152 (0, 0)) ∧ IsBytes w a l.length cap l ∧ ∀ x, a = some x → x.block < B
theorem RdrB.rdr {w : World} {B : Nat} {l : List UInt8} {e : Int} (h : RdrB w B l e) : RdrAt w B l e := by
  obtain ⟨a, cap, h1, h2, _⟩ := h
  exact ⟨a, cap, h1, h2⟩
theorem RdrB.lt {w : World} {B : Nat} {l : List UInt8} {e : Int} (h : RdrB w B l e) : B < w.heap.size := by
  obtain ⟨_, _, h, _⟩ := h
  exact lt_of_block h
/-- What keeps all up to the reader keeps the reader. -/
theorem RdrB.keep {w w' : World} {B : Nat} {l : List UInt8} {e : Int} (h : RdrB w B l e) (hb : Below (B + 1) w w') : RdrB w' B l e := by
  obtain ⟨a, cap, h1, h2, h3⟩ := h
  refine ⟨a, cap, (hb.block B (Nat.lt_succ_self B)).trans h1, ⟨h2.1, h2.2.1, h2.2.2.1, fun h0 => ?_⟩, h3⟩
  obtain ⟨b, off, rfl, hc⟩ := h2.2.2.2 h0
  have hlt := h3 _ rfl
  exact ⟨b, off, rfl, fun i hi => (hb.cell (show b < B + 1 by simp only at hlt; omega)).trans (hc i hi)⟩
theorem RdrB.below {w w' : World} {B : Nat} {l : List UInt8} {e : Int} (h : RdrB w B l e) (hb : Below w.heap.size w w') : RdrB w' B l e := h.keep (hb.mono h.lt)
theorem RdrB.setErr {w : World} {B : Nat} {l : List UInt8} {e : Int} (h : RdrB w B l e) (e' : Int) : RdrB (w.setCell ⟨B, 1, none⟩ (.int .i64 e')) B l e' := by
  obtain ⟨a, cap, h1, h2, h3⟩ := h
  exact ⟨a, cap, heap_setCell_same _ B 1 _ _ _ h1, isBytes_only h2 ((Only.refl B w).set 1 _) h1 (fun x hx => by cases hx), h3⟩
theorem RdrB.setRest {w : World} {B : Nat} {l l' : List UInt8} {e : Int} {a : Option Addr} {cap : Nat} (h : RdrB w B l e) (h2 : IsBytes w a l'.length cap l') (h3 : ∀ x, a = some x → x.block < B) : RdrB (w.setCell ⟨B, 0, none⟩ (.slice a l'.length cap)) B l' e := by
  obtain ⟨a', cap', h1, _⟩ := h
  exact ⟨a, cap, heap_setCell_same _ B 0 _ _ _ h1, isBytes_only h2 ((Only.refl B w).set 0 _) h1 (fun x hx => by cases hx), h3⟩
theorem RdrB.rest1 {w : World} {B : Nat} {l : List UInt8} {e : Int} {b off cap u : Nat} (h : RdrB w B l e) (hs : IsBytes w (some ⟨b, off, none⟩) l.length cap l) (h3 : b < B) (hu : u ≤ l.length) : RdrB (w.setCell ⟨B, 0, none⟩ (.slice (some ⟨b, off + u, none⟩) (l.length - u) (cap - u))) B (l.drop u) e := by
  have := h.setRest (isBytes_drop hs u hu rfl) (fun x hx => by cases hx; exact h3)
  rw [List.length_drop] at this
  exact this
theorem RdrB.rest0 {w : World} {B : Nat} {l : List UInt8} {e : Int} {a : Option Addr} {u cap : Nat} (h : RdrB w B l e) (hs : IsBytes w a l.length cap l) (h3 : ∀ x, a = some x → x.block < B) (hu : u ≤ l.length) (hc : l.length ≤ u) : RdrB (w.setCell ⟨B, 0, none⟩ (.slice a (l.length - u) 0)) B (l.drop u) e := by
  obtain rfl : u = l.length := by omega
  rw [List.drop_length, Nat.sub_self]
  exact h.setRest (l' := []) (Sl.nil _ _ _ _ (Nat.zero_le _)) h3
set_option maxHeartbeats 1000000 in
theorem bnew_any (a : Option Addr) (len cap : Nat) (l : List UInt8) (W : World) (hb : IsBytes W a len cap l) (hl : l.length ≤ 100000) :
    Calls Try.prog 98 #[.slice a len cap] W fun e w' => ∃ B, e = .returned (.pointer (some ⟨B, 0, none⟩)) ∧ W.heap.size ≤ B ∧ RdrB w' B l 0 ∧ Below W.heap.size W w' := by
  obtain ⟨rfl, hlc, hcm⟩ := hb.len
  have HB := hid hb
  clear hb
  go_enter Try.func98, Try.ntmps98
  go_wp2_with (at_builtin; refine wpList_append_sl (W := W) rfl (.const (.slice none 0 0)) (.tmp 3) 24 rfl W.heap.size 5 Try.underlying24 info_u8 rfl (by omega) rfl (World.ownsRow_nil _ _ _ _) rfl HB.out (bcells_one _) (by unfold maxLen; omega) (by omega) (Nat.le_refl _) (Below.refl _ _) ?_)
  intro v' w' h2 h3 h4
  have hlt9 := own_blk_lt h2
  obtain ⟨a2, c2, rfl, hs⟩ := own_bytes h2
  have HL9 := hid (show ∀ x, a2 = some x → x.block < w'.heap.size from fun x hx => hlt9 x.block (by subst hx; rfl))
  clear hlt9
  have HS := hid hs
  have H3 := hid h3
  clear h2 h3 h4 hs
  go_wp2
  go_ret
  exact ⟨_, rfl, H3.out.size, ⟨a2, c2, heap_alloc_new _ _, HS.out.below ((Below.refl _ _).alloc (Nat.le_refl _) _), HL9.out⟩, H3.out.alloc H3.out.size _⟩

set_option maxRecDepth 20000 in
set_option maxHeartbeats 1000000 in
theorem bNum_any (B : Nat) (l : List UInt8) (e most : Int) (W : World) (h : RdrB W B l e) :
    Calls Try.prog 123 #[.pointer (some ⟨B, 0, none⟩), .int .i64 most] W fun x w' => x = .returned (.int .i64 ((rdNum most l e).1 : Nat)) ∧ RdrB w' B (rdNum most l e).2.1 (rdNum most l e).2.2 ∧ Only B W w' := by
  have H := hid h
  obtain ⟨a, cap, hB, hs, hloc⟩ := h
  have HLOC := hid hloc
  clear hloc
  have HS := hid hs
  obtain ⟨c0, c1, f0, f1⟩ := two_cells hB
  clear hB hs
  by_cases he : e = 0
  · subst he
    have HF := hid (fun w (hw : W = w) => first_any a l.length cap l most w (hw ▸ HS.out))
    have HU := hid (firstN_used most l)
    have hx := firstN_err most l
    have HR : Hid (rdNum most l 0 = if (firstN most l).2.2 = 0 then ((firstN most l).1, l.drop (firstN most l).2.1, (0 : Int)) else (0, l, (((firstN most l).2.2 : Nat) : Int))) := hid rfl
    generalize firstN most l = t at *
    obtain ⟨n, u, x⟩ := t
    simp only [trip] at HF HU hx HR
    by_cases h0 : x = 0
    · subst h0
      rw [if_pos rfl] at HR
      obtain ⟨u1, u2, n1, n2⟩ := HU.out rfl
      have hcap := HS.out.len
      have hcap1 : l.length ≤ cap := hcap.2.1
      have hcap2 : cap ≤ 9223372036854775807 := by have := hcap.2.2; unfold maxLen at this; omega
      have hu1 : (u : Int) ≤ (l.length : Int) := by omega
      obtain ⟨b, off, rfl, _⟩ := HS.out.2.2.2 (by rw [bcells_length]; omega)
      clear HU n1 n2 hcap
      go_enter Try.func123, Try.ntmps123
      go_wp2_with (go_at_call 125; refine (HF.out _ rfl).mono ?_; rintro e w' ⟨rfl, rfl⟩)
      all_goals go_ret
      all_goals rw [HR.out]
      all_goals refine ⟨rfl, ?_, (Only.refl B W).set 0 _⟩
      all_goals first
        | exact H.out.rest1 HS.out (HLOC.out _ rfl) u2
        | exact H.out.rest0 HS.out HLOC.out u2 (by omega)
    · rw [if_neg h0] at HR
      have hne : (((x : Nat) : Int) != 0) = true := by simp; omega
      clear HU
      go_enter Try.func123, Try.ntmps123
      go_wp2_with (go_at_call 125; refine (HF.out _ rfl).mono ?_; rintro e w' ⟨rfl, rfl⟩)
      go_ret
      rw [HR.out]
      exact ⟨rfl, H.out.setErr _, (Only.refl B W).set 1 _⟩
  · have hne : (e != 0) = true := by simp [he]
    have HR : Hid (rdNum most l e = (0, l, e)) := hid (by rw [rdNum, if_neg he])
    clear he
    go_enter Try.func123, Try.ntmps123
    go_wp2
    go_ret
    rw [HR.out]
    exact ⟨rfl, H.out, Only.refl B W⟩

set_option maxRecDepth 20000 in
set_option maxHeartbeats 2000000 in
theorem bText_any (B : Nat) (l : List UInt8) (e most : Int) (W : World) (h : RdrB W B l e) :
    Calls Try.prog 100 #[.pointer (some ⟨B, 0, none⟩), .int .i64 most] W fun x w' => x = .returned (.string ⟨(rdText most l e).1.toArray⟩) ∧ RdrB w' B (rdText most l e).2.1 (rdText most l e).2.2 ∧ Only B W w' := by
  have H := hid h
  obtain ⟨a, cap, hB, hs, hloc⟩ := h
  have HLOC := hid hloc
  clear hloc
  have HS := hid hs
  obtain ⟨c0, c1, f0, f1⟩ := two_cells hB
  clear hB hs
  by_cases he : e = 0
  · subst he
    have HF := hid (fun w (hw : W = w) => first_any a l.length cap l most w (hw ▸ HS.out))
    have HU := hid (firstN_used most l)
    have hx := firstN_err most l
    have HR : Hid (rdText most l 0 = if (firstN most l).2.2 = 0 then (if l.length - (firstN most l).2.1 < (firstN most l).1 then ([], l, (2 : Int)) else ((l.drop (firstN most l).2.1).take (firstN most l).1, l.drop ((firstN most l).2.1 + (firstN most l).1), (0 : Int))) else ([], l, (((firstN most l).2.2 : Nat) : Int))) := hid rfl
    generalize firstN most l = t at *
    obtain ⟨n, u, x⟩ := t
    simp only [trip] at HF HU hx HR
    by_cases h0 : x = 0
    · subst h0
      rw [if_pos rfl] at HR
      obtain ⟨u1, u2, n1, n2⟩ := HU.out rfl
      have hcap := HS.out.len
      have hcap1 : l.length ≤ cap := hcap.2.1
      have hcap2 : cap ≤ 9223372036854775807 := by have := hcap.2.2; unfold maxLen at this; omega
      have hu1 : (u : Int) ≤ (l.length : Int) := by omega
      obtain ⟨b, off, rfl, _⟩ := HS.out.2.2.2 (by rw [bcells_length]; omega)
      clear HU n2 hcap
      by_cases hsh : l.length - u < n
      · rw [if_pos hsh] at HR
        have hd : decide ((l.length : Int) - (u : Int) < (n : Int)) = true := by simp; omega
        have hd2 : (l.length : Int) - (u : Int) < (n : Int) := by omega
        clear hsh n1
        go_enter Try.func100, Try.ntmps100
        go_wp2_with (go_at_call 125; refine (HF.out _ rfl).mono ?_; rintro e w' ⟨rfl, rfl⟩)
        go_ret
        rw [HR.out]
        exact ⟨rfl, H.out.setErr _, (Only.refl B W).set 1 _⟩
      · rw [if_neg hsh] at HR
        have hd : decide ((l.length : Int) - (u : Int) < (n : Int)) = false := by simp; omega
        have hd2 : (n : Int) ≤ (l.length : Int) - (u : Int) := by omega
        have hun : u + n ≤ l.length := by omega
        have hcv := conv_str (P := Try.prog) (src := 24) (dst := 9) Try.underlying24 Try.underlying5 Try.underlying9 (isBytes_mid HS.out u n hun)
        clear hsh n1
        by_cases hcu : cap = u
        · obtain rfl : n = 0 := by omega
          have hcv0 := conv_str (P := Try.prog) (src := 24) (dst := 9) Try.underlying24 Try.underlying5 Try.underlying9 (isBytes_nil W (some ⟨b, off, none⟩) 0 (Nat.zero_le _))
          have HCU := hid hcu
          clear hcv
          subst hcu
          clear hun hd2
          go_enter Try.func100, Try.ntmps100
          go_wp2_with (go_at_call 125; refine (HF.out _ rfl).mono ?_; rintro e w' ⟨rfl, rfl⟩)
          all_goals go_ret
          all_goals rw [HR.out]
          all_goals refine ⟨by simp, ?_, (Only.refl B W).set 0 _⟩
          all_goals simp only [Nat.add_zero]
          all_goals first
            | exact H.out.rest1 HS.out (HLOC.out _ rfl) u2
            | (have hz := H.out.rest0 HS.out HLOC.out u2 (by omega); rw [show l.length - cap = 0 by omega] at hz; exact hz)
        · have hcu2 : ¬ (u = cap) := fun h => hcu h.symm
          go_enter Try.func100, Try.ntmps100
          go_wp2_with (go_at_call 125; refine (HF.out _ rfl).mono ?_; rintro e w' ⟨rfl, rfl⟩)
          all_goals go_ret
          all_goals rw [HR.out]
          all_goals refine ⟨rfl, ?_, (Only.refl B W).set 0 _⟩
          all_goals first
            | exact H.out.rest1 HS.out (HLOC.out _ rfl) hun
            | exact H.out.rest0 HS.out HLOC.out hun (by omega)
    · rw [if_neg h0] at HR
      have hne : (((x : Nat) : Int) != 0) = true := by simp; omega
      have hne2 : (((x : Nat) : Int) == 0) = false := by simp; omega
      clear HU
      go_enter Try.func100, Try.ntmps100
      go_wp2_with (go_at_call 125; refine (HF.out _ rfl).mono ?_; rintro e w' ⟨rfl, rfl⟩)
      go_ret
      rw [HR.out]
      exact ⟨rfl, H.out.setErr _, (Only.refl B W).set 1 _⟩
  · have hne : (e != 0) = true := by simp [he]
    have HR : Hid (rdText most l e = ([], l, e)) := hid (by rw [rdText, if_neg he])
    clear he
    go_enter Try.func100, Try.ntmps100
    go_wp2
    go_ret
    rw [HR.out]
    exact ⟨rfl, H.out, Only.refl B W⟩

set_option linter.unusedVariables false
set_option linter.unusedSimpArgs false
theorem bErr_any (B : Nat) (l : List UInt8) (e : Int) (W : World) (h : RdrB W B l e) :
    Calls Try.prog 126 #[.pointer (some ⟨B, 0, none⟩)] W fun x w' => x = .returned (.int .i64 e) ∧ W = w' := by
  obtain ⟨a, cap, hB, hs, hloc⟩ := h
  have HLOC := hid hloc
  clear hloc
  obtain ⟨c0, c1, f0, f1⟩ := two_cells hB
  clear hB hs
  go_enter Try.func126, Try.ntmps126
  go_wp2
  go_ret
  exact ⟨rfl, rfl⟩

theorem bFail_any (B : Nat) (l : List UInt8) (e x : Int) (W : World) (h : RdrB W B l e) :
    Calls Try.prog 124 #[.pointer (some ⟨B, 0, none⟩), .int .i64 x] W fun y w' => (∃ v, y = .returned v) ∧ RdrB w' B l (rdFail x e) ∧ Only B W w' := by
  have H := hid h
  obtain ⟨a, cap, hB, hs, hloc⟩ := h
  have HLOC := hid hloc
  clear hloc
  obtain ⟨c0, c1, f0, f1⟩ := two_cells hB
  clear hB hs
  by_cases he : e = 0
  · subst he
    go_enter Try.func124, Try.ntmps124
    go_wp2
    go_end0
    exact ⟨⟨_, rfl⟩, by rw [rdFail, if_pos rfl]; exact H.out.setErr x, (Only.refl B W).set 1 _⟩
  · have hne : (e == 0) = false := by simp [he]
    have HR : Hid (rdFail x e = e) := hid (by rw [rdFail, if_neg he])
    clear he
    go_enter Try.func124, Try.ntmps124
    go_wp2
    go_end0
    exact ⟨⟨_, rfl⟩, by rw [HR.out]; exact H.out, Only.refl B W⟩

theorem bEnd_any (B : Nat) (l : List UInt8) (e : Int) (W : World) (h : RdrB W B l e) :
    Calls Try.prog 101 #[.pointer (some ⟨B, 0, none⟩)] W fun x w' => x = .returned (.int .i64 (rdEnd l e)) ∧ W = w' := by
  have HE := hid (fun w (hw : W = w) => bErr_any B l e w (hw ▸ h))
  obtain ⟨a, cap, hB, hs, hloc⟩ := h
  have HLOC := hid hloc
  clear hloc
  obtain ⟨c0, c1, f0, f1⟩ := two_cells hB
  clear hB hs
  by_cases he : e = 0
  · subst he
    by_cases hl : 0 < l.length
    · have hl' : (0 : Int) < l.length := by omega
      have hd : decide (0 < l.length) = true := by simp; omega
      have HR : Hid (rdEnd l 0 = 3) := hid (by rw [rdEnd, if_pos rfl, if_pos hl])
      clear hl
      go_enter Try.func101, Try.ntmps101
      go_wp2_with (go_at_call 126; refine (HE.out _ rfl).mono ?_; rintro e w' ⟨rfl, rfl⟩)
      go_ret
      exact ⟨by rw [HR.out]; rfl, rfl⟩
    · have hl' : l.length = 0 := by omega
      have HR : Hid (rdEnd l 0 = 0) := hid (by rw [rdEnd, if_pos rfl, if_neg hl])
      rw [hl'] at c0
      clear hl hl'
      go_enter Try.func101, Try.ntmps101
      go_wp2_with (go_at_call 126; refine (HE.out _ rfl).mono ?_; rintro e w' ⟨rfl, rfl⟩)
      go_ret
      exact ⟨by rw [HR.out]; rfl, rfl⟩
  · have hne : (e != 0) = true := by simp [he]
    have HR : Hid (rdEnd l e = e) := hid (by rw [rdEnd, if_neg he])
    clear he
    go_enter Try.func101, Try.ntmps101
    go_wp2_with (go_at_call 126; refine (HE.out _ rfl).mono ?_; rintro e w' ⟨rfl, rfl⟩)
    go_ret
    exact ⟨by rw [HR.out]; rfl, rfl⟩

theorem btake_any (B : Nat) (has least most : Int) (l : List UInt8) (e : Int) (W : World) (h : RdrB W B l e) (hb : Bool) (hh : (has == 0) = !hb) :
    Calls Try.prog 99 #[.pointer (some ⟨B, 0, none⟩), .int .i64 has, .int .i64 least, .int .i64 most] W fun x w' => x = .returned (.int .i64 ((takeS hb least most l e).1 : Nat)) ∧ RdrB w' B (takeS hb least most l e).2.1 (takeS hb least most l e).2.2 ∧ Only B W w' := by
  cases hb with
  | false =>
    have hh' : (has == 0) = true := by simpa using hh
    clear hh
    have H := hid h
    clear h
    go_enter Try.func99, Try.ntmps99
    go_wp2
    go_ret
    exact ⟨rfl, H.out, Only.refl B W⟩
  | true =>
    have hh' : (has == 0) = false := by simpa using hh
    have HR : Hid (takeS true least most l e = if ((rdNum most l e).1 : Int) < least then ((rdNum most l e).1, (rdNum most l e).2.1, rdFail 3 (rdNum most l e).2.2) else rdNum most l e) := hid rfl
    have HN := hid (bNum_any B l e most W h)
    clear hh h
    generalize rdNum most l e = t at *
    obtain ⟨n, l2, e2⟩ := t
    simp only at HR HN
    by_cases hlt : (n : Int) < least
    · have hd : decide ((n : Int) < least) = true := decide_eq_true hlt
      rw [if_pos hlt] at HR
      go_enter Try.func99, Try.ntmps99
      go_wp2_with fail
      refine HN.out.mono ?_
      rintro x w1 ⟨rfl, hR, hO⟩
      have HF := hid (bFail_any B l2 e2 3 w1 hR)
      have HO := hid hO
      clear hR hO
      go_wp2_with fail
      refine HF.out.mono ?_
      rintro x w2 ⟨⟨v, rfl⟩, hR2, hO2⟩
      have HR2 := hid hR2
      have HO2 := hid hO2
      clear hR2 hO2
      go_wp2
      go_ret
      rw [HR.out]
      exact ⟨rfl, HR2.out, HO.out.trans HO2.out⟩
    · have hd : decide ((n : Int) < least) = false := decide_eq_false hlt
      rw [if_neg hlt] at HR
      have hlt' : least ≤ (n : Int) := by omega
      go_enter Try.func99, Try.ntmps99
      go_wp2_with fail
      refine HN.out.mono ?_
      rintro x w1 ⟨rfl, hR, hO⟩
      have HRR := hid hR
      have HO := hid hO
      clear hR hO
      go_wp2
      go_ret
      rw [HR.out]
      exact ⟨rfl, HRR.out, HO.out⟩
end Go.Proofs.Ytkepfkfoblocgaa
