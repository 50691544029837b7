/- A reader whose bytes lie below it: its methods again; rec.take. -/
import Derived.Test.YtkepfkfoblocgaaGreatRcP
import Derived.Test.YtkepfkfoblocgaaGreatOcP
import Derived.Test.YtkepfkfoblocgaaGreatGaP
import Derived.Deep.RegionHeld3
namespace Go.Proofs.YtkepfkfoblocgaaGreat
open Go.RowKit
set_option linter.unusedVariables false
set_option linter.unusedSimpArgs false

theorem own_blk_lt {w : World} {base e s n : Nat} {v : Value} {xs : List Value} (h : w.ownsRow base e s v n xs) : ∀ g, v.ownBlock = some g → g < w.heap.size := by
  intro g hg
  rcases h.2 with ⟨rfl, _⟩ | ⟨g', cap, cur, rfl, _, hh, _⟩
  · simp [Value.ownBlock] at hg
  · have : g' = g := by simpa [Value.ownBlock] using hg
    subst this
    exact lt_of_block hh
def takeS (hb : Bool) (least : Int) (most : Int) (l : List UInt8) (e : Int) : Nat × List UInt8 × Int :=
  if hb then (if ((rdNum most l e).1 : Int) < least then ((rdNum most l e).1, (rdNum most l e).2.1, rdFail 3 (rdNum most l e).2.2) else rdNum most l e) else (0, l, e)
/-- A reader whose bytes lie in a block below its own. -/
def RdrB (w : World) (B : Nat) (l : List UInt8) (e : Int) : Prop :=
  ∃ a cap, w.heap[B]? = some (.cells #[.slice a l.length cap, .int .i64 e] 149 (0, 0)) ∧ IsBytes w a l.length cap l ∧ ∀ x, a = some x → x.block < B
theorem RdrB.lt {w : World} {B : Nat} {l : List UInt8} {e : Int} (h : RdrB w B l e) : B < w.heap.size := by
  obtain ⟨_, _, h, _⟩ := h
  exact lt_of_block h
/-- What keeps all up to the reader keeps the reader. -/
theorem RdrB.keep {w w' : World} {B : Nat} {l : List UInt8} {e : Int} (h : RdrB w B l e) (hb : Below (B + 1) w w') : RdrB w' B l e := by
  obtain ⟨a, cap, h1, h2, h3⟩ := h
  refine ⟨a, cap, (hb.block B (Nat.lt_succ_self B)).trans h1, ⟨h2.1, h2.2.1, h2.2.2.1, fun h0 => ?_⟩, h3⟩
  obtain ⟨b, off, rfl, hc⟩ := h2.2.2.2 h0
  have hlt := h3 _ rfl
  exact ⟨b, off, rfl, fun i hi => (hb.cell (show b < B + 1 by simp only at hlt; omega)).trans (hc i hi)⟩
theorem RdrB.below {w w' : World} {B : Nat} {l : List UInt8} {e : Int} (h : RdrB w B l e) (hb : Below w.heap.size w w') : RdrB w' B l e := h.keep (hb.mono h.lt)
theorem RdrB.setErr {w : World} {B : Nat} {l : List UInt8} {e : Int} (h : RdrB w B l e) (e' : Int) : RdrB (w.setCell ⟨B, 1, none⟩ (.int .i64 e')) B l e' := by
  obtain ⟨a, cap, h1, h2, h3⟩ := h
  exact ⟨a, cap, heap_setCell_same _ B 1 _ _ _ h1, isBytes_only h2 ((Only.refl B w).set 1 _) h1 (fun x hx => by cases hx), h3⟩
theorem RdrB.setRest {w : World} {B : Nat} {l l' : List UInt8} {e : Int} {a : Option Addr} {cap : Nat} (h : RdrB w B l e) (h2 : IsBytes w a l'.length cap l') (h3 : ∀ x, a = some x → x.block < B) : RdrB (w.setCell ⟨B, 0, none⟩ (.slice a l'.length cap)) B l' e := by
  obtain ⟨a', cap', h1, _⟩ := h
  exact ⟨a, cap, heap_setCell_same _ B 0 _ _ _ h1, isBytes_only h2 ((Only.refl B w).set 0 _) h1 (fun x hx => by cases hx), h3⟩
theorem RdrB.rest1 {w : World} {B : Nat} {l : List UInt8} {e : Int} {b off cap u : Nat} (h : RdrB w B l e) (hs : IsBytes w (some ⟨b, off, none⟩) l.length cap l) (h3 : b < B) (hu : u ≤ l.length) : RdrB (w.setCell ⟨B, 0, none⟩ (.slice (some ⟨b, off + u, none⟩) (l.length - u) (cap - u))) B (l.drop u) e := by
  have := h.setRest (isBytes_drop hs u hu rfl) (fun x hx => by cases hx; exact h3)
  rw [List.length_drop] at this
  exact this
theorem RdrB.rest0 {w : World} {B : Nat} {l : List UInt8} {e : Int} {a : Option Addr} {u cap : Nat} (h : RdrB w B l e) (hs : IsBytes w a l.length cap l) (h3 : ∀ x, a = some x → x.block < B) (hu : u ≤ l.length) (hc : l.length ≤ u) : RdrB (w.setCell ⟨B, 0, none⟩ (.slice a (l.length - u) 0)) B (l.drop u) e := by
  obtain rfl : u = l.length := by omega
  rw [List.drop_length, Nat.sub_self]
  exact h.setRest (l' := []) (Sl.nil _ _ _ _ (Nat.zero_le _)) h3
set_option maxHeartbeats 1000000 in
theorem bnew_any (a : Option Addr) (len cap : Nat) (l : List UInt8) (W : World) (hb : IsBytes W a len cap l) (hl : l.length ≤ 100000) :
    Calls Tryz.prog 86 #[.slice a len cap] W fun e w' => ∃ B, e = .returned (.pointer (some ⟨B, 0, none⟩)) ∧ W.heap.size ≤ B ∧ RdrB w' B l 0 ∧ Below W.heap.size W w' := by
  obtain ⟨rfl, hlc, hcm⟩ := hb.len
  have HB := hid hb
  clear hb
  go_enter Tryz.func86, Tryz.ntmps86
  go_wp2_with (at_builtin; refine wpList_append_sl (W := W) rfl (.const (.slice none 0 0)) (.tmp 3) 23 rfl W.heap.size 5 Tryz.underlying23 info_u8 rfl (by omega) rfl (World.ownsRow_nil _ _ _ _) rfl HB.out (bcells_one _) (by unfold maxLen; omega) (by omega) (Nat.le_refl _) (Below.refl _ _) ?_)
  intro v' w' h2 h3 h4
  have hlt9 := own_blk_lt h2
  obtain ⟨a2, c2, rfl, hs⟩ := own_bytes h2
  have HL9 := hid (show ∀ x, a2 = some x → x.block < w'.heap.size from fun x hx => hlt9 x.block (by subst hx; rfl))
  clear hlt9
  have HS := hid hs
  have H3 := hid h3
  clear h2 h3 h4 hs
  go_wp2
  go_ret
  exact ⟨_, rfl, H3.out.size, ⟨a2, c2, heap_alloc_new _ _, HS.out.below ((Below.refl _ _).alloc (Nat.le_refl _) _), HL9.out⟩, H3.out.alloc H3.out.size _⟩

set_option maxRecDepth 20000 in
set_option maxHeartbeats 1000000 in
theorem bNum_any (B : Nat) (l : List UInt8) (e most : Int) (W : World) (h : RdrB W B l e) :
    Calls Tryz.prog 87 #[.pointer (some ⟨B, 0, none⟩), .int .i64 most] W fun x w' => x = .returned (.int .i64 ((rdNum most l e).1 : Nat)) ∧ RdrB w' B (rdNum most l e).2.1 (rdNum most l e).2.2 ∧ Only B W w' := by
  have H := hid h
  obtain ⟨a, cap, hB, hs, hloc⟩ := h
  have HLOC := hid hloc
  clear hloc
  have HS := hid hs
  obtain ⟨c0, c1, f0, f1⟩ := two_cells hB
  clear hB hs
  by_cases he : e = 0
  · subst he
    have HF := hid (fun w (hw : W = w) => first_any a l.length cap l most w (hw ▸ HS.out))
    have HU := hid (firstN_used most l)
    have hx := firstN_err most l
    have HR : Hid (rdNum most l 0 = if (firstN most l).2.2 = 0 then ((firstN most l).1, l.drop (firstN most l).2.1, (0 : Int)) else (0, l, (((firstN most l).2.2 : Nat) : Int))) := hid rfl
    generalize firstN most l = t at *
    obtain ⟨n, u, x⟩ := t
    simp only [trip] at HF HU hx HR
    by_cases h0 : x = 0
    · subst h0
      rw [if_pos rfl] at HR
      obtain ⟨u1, u2, n1, n2⟩ := HU.out rfl
      have hcap := HS.out.len
      have hcap1 : l.length ≤ cap := hcap.2.1
      have hcap2 : cap ≤ 9223372036854775807 := by have := hcap.2.2; unfold maxLen at this; omega
      have hu1 : (u : Int) ≤ (l.length : Int) := by omega
      obtain ⟨b, off, rfl, _⟩ := HS.out.2.2.2 (by rw [bcells_length]; omega)
      clear HU n1 n2 hcap
      go_enter Tryz.func87, Tryz.ntmps87
      go_wp2_with (go_at_call 105; refine (HF.out _ rfl).mono ?_; rintro e w' ⟨rfl, rfl⟩)
      all_goals go_ret
      all_goals rw [HR.out]
      all_goals refine ⟨rfl, ?_, (Only.refl B W).set 0 _⟩
      all_goals first
        | exact H.out.rest1 HS.out (HLOC.out _ rfl) u2
        | exact H.out.rest0 HS.out HLOC.out u2 (by omega)
    · rw [if_neg h0] at HR
      have hne : (((x : Nat) : Int) != 0) = true := by simp; omega
      clear HU
      go_enter Tryz.func87, Tryz.ntmps87
      go_wp2_with (go_at_call 105; refine (HF.out _ rfl).mono ?_; rintro e w' ⟨rfl, rfl⟩)
      go_ret
      rw [HR.out]
      exact ⟨rfl, H.out.setErr _, (Only.refl B W).set 1 _⟩
  · have hne : (e != 0) = true := by simp [he]
    have HR : Hid (rdNum most l e = (0, l, e)) := hid (by rw [rdNum, if_neg he])
    clear he
    go_enter Tryz.func87, Tryz.ntmps87
    go_wp2
    go_ret
    rw [HR.out]
    exact ⟨rfl, H.out, Only.refl B W⟩

set_option maxRecDepth 20000 in
set_option maxHeartbeats 2000000 in
theorem bText_any (B : Nat) (l : List UInt8) (e most : Int) (W : World) (h : RdrB W B l e) :
    Calls Tryz.prog 92 #[.pointer (some ⟨B, 0, none⟩), .int .i64 most] W fun x w' => x = .returned (.string ⟨(rdText most l e).1.toArray⟩) ∧ RdrB w' B (rdText most l e).2.1 (rdText most l e).2.2 ∧ Only B W w' := by
  have H := hid h
  obtain ⟨a, cap, hB, hs, hloc⟩ := h
  have HLOC := hid hloc
  clear hloc
  have HS := hid hs
  obtain ⟨c0, c1, f0, f1⟩ := two_cells hB
  clear hB hs
  by_cases he : e = 0
  · subst he
    have HF := hid (fun w (hw : W = w) => first_any a l.length cap l most w (hw ▸ HS.out))
    have HU := hid (firstN_used most l)
    have hx := firstN_err most l
    have HR : Hid (rdText most l 0 = if (firstN most l).2.2 = 0 then (if l.length - (firstN most l).2.1 < (firstN most l).1 then ([], l, (2 : Int)) else ((l.drop (firstN most l).2.1).take (firstN most l).1, l.drop ((firstN most l).2.1 + (firstN most l).1), (0 : Int))) else ([], l, (((firstN most l).2.2 : Nat) : Int))) := hid rfl
    generalize firstN most l = t at *
    obtain ⟨n, u, x⟩ := t
    simp only [trip] at HF HU hx HR
    by_cases h0 : x = 0
    · subst h0
      rw [if_pos rfl] at HR
      obtain ⟨u1, u2, n1, n2⟩ := HU.out rfl
      have hcap := HS.out.len
      have hcap1 : l.length ≤ cap := hcap.2.1
      have hcap2 : cap ≤ 9223372036854775807 := by have := hcap.2.2; unfold maxLen at this; omega
      have hu1 : (u : Int) ≤ (l.length : Int) := by omega
      obtain ⟨b, off, rfl, _⟩ := HS.out.2.2.2 (by rw [bcells_length]; omega)
      clear HU n2 hcap
      by_cases hsh : l.length - u < n
      · rw [if_pos hsh] at HR
        have hd : decide ((l.length : Int) - (u : Int) < (n : Int)) = true := by simp; omega
        have hd2 : (l.length : Int) - (u : Int) < (n : Int) := by omega
        clear hsh n1
        go_enter Tryz.func92, Tryz.ntmps92
        go_wp2_with (go_at_call 105; refine (HF.out _ rfl).mono ?_; rintro e w' ⟨rfl, rfl⟩)
        go_ret
        rw [HR.out]
        exact ⟨rfl, H.out.setErr _, (Only.refl B W).set 1 _⟩
      · rw [if_neg hsh] at HR
        have hd : decide ((l.length : Int) - (u : Int) < (n : Int)) = false := by simp; omega
        have hd2 : (n : Int) ≤ (l.length : Int) - (u : Int) := by omega
        have hun : u + n ≤ l.length := by omega
        have hcv := conv_str (P := Tryz.prog) (src := 23) (dst := 9) Tryz.underlying23 Tryz.underlying5 Tryz.underlying9 (isBytes_mid HS.out u n hun)
        clear hsh n1
        by_cases hcu : cap = u
        · obtain rfl : n = 0 := by omega
          have hcv0 := conv_str (P := Tryz.prog) (src := 23) (dst := 9) Tryz.underlying23 Tryz.underlying5 Tryz.underlying9 (isBytes_nil W (some ⟨b, off, none⟩) 0 (Nat.zero_le _))
          have HCU := hid hcu
          clear hcv
          subst hcu
          clear hun hd2
          go_enter Tryz.func92, Tryz.ntmps92
          go_wp2_with (go_at_call 105; refine (HF.out _ rfl).mono ?_; rintro e w' ⟨rfl, rfl⟩)
          all_goals go_ret
          all_goals rw [HR.out]
          all_goals refine ⟨by simp, ?_, (Only.refl B W).set 0 _⟩
          all_goals simp only [Nat.add_zero]
          all_goals first
            | exact H.out.rest1 HS.out (HLOC.out _ rfl) u2
            | (have hz := H.out.rest0 HS.out HLOC.out u2 (by omega); rw [show l.length - cap = 0 by omega] at hz; exact hz)
        · have hcu2 : ¬ (u = cap) := fun h => hcu h.symm
          go_enter Tryz.func92, Tryz.ntmps92
          go_wp2_with (go_at_call 105; refine (HF.out _ rfl).mono ?_; rintro e w' ⟨rfl, rfl⟩)
          all_goals go_ret
          all_goals rw [HR.out]
          all_goals refine ⟨rfl, ?_, (Only.refl B W).set 0 _⟩
          all_goals first
            | exact H.out.rest1 HS.out (HLOC.out _ rfl) hun
            | exact H.out.rest0 HS.out HLOC.out hun (by omega)
    · rw [if_neg h0] at HR
      have hne : (((x : Nat) : Int) != 0) = true := by simp; omega
      have hne2 : (((x : Nat) : Int) == 0) = false := by simp; omega
      clear HU
      go_enter Tryz.func92, Tryz.ntmps92
      go_wp2_with (go_at_call 105; refine (HF.out _ rfl).mono ?_; rintro e w' ⟨rfl, rfl⟩)
      go_ret
      rw [HR.out]
      exact ⟨rfl, H.out.setErr _, (Only.refl B W).set 1 _⟩
  · have hne : (e != 0) = true := by simp [he]
    have HR : Hid (rdText most l e = ([], l, e)) := hid (by rw [rdText, if_neg he])
    clear he
    go_enter Tryz.func92, Tryz.ntmps92
    go_wp2
    go_ret
    rw [HR.out]
    exact ⟨rfl, H.out, Only.refl B W⟩

set_option linter.unusedVariables false
set_option linter.unusedSimpArgs false
theorem bErr_any (B : Nat) (l : List UInt8) (e : Int) (W : World) (h : RdrB W B l e) :
    Calls Tryz.prog 88 #[.pointer (some ⟨B, 0, none⟩)] W fun x w' => x = .returned (.int .i64 e) ∧ W = w' := by
  obtain ⟨a, cap, hB, hs, hloc⟩ := h
  have HLOC := hid hloc
  clear hloc
  obtain ⟨c0, c1, f0, f1⟩ := two_cells hB
  clear hB hs
  go_enter Tryz.func88, Tryz.ntmps88
  go_wp2
  go_ret
  exact ⟨rfl, rfl⟩

theorem bFail_any (B : Nat) (l : List UInt8) (e x : Int) (W : World) (h : RdrB W B l e) :
    Calls Tryz.prog 107 #[.pointer (some ⟨B, 0, none⟩), .int .i64 x] W fun y w' => (∃ v, y = .returned v) ∧ RdrB w' B l (rdFail x e) ∧ Only B W w' := by
  have H := hid h
  obtain ⟨a, cap, hB, hs, hloc⟩ := h
  have HLOC := hid hloc
  clear hloc
  obtain ⟨c0, c1, f0, f1⟩ := two_cells hB
  clear hB hs
  by_cases he : e = 0
  · subst he
    go_enter Tryz.func107, Tryz.ntmps107
    go_wp2
    go_end0
    exact ⟨⟨_, rfl⟩, by rw [rdFail, if_pos rfl]; exact H.out.setErr x, (Only.refl B W).set 1 _⟩
  · have hne : (e == 0) = false := by simp [he]
    have HR : Hid (rdFail x e = e) := hid (by rw [rdFail, if_neg he])
    clear he
    go_enter Tryz.func107, Tryz.ntmps107
    go_wp2
    go_end0
    exact ⟨⟨_, rfl⟩, by rw [HR.out]; exact H.out, Only.refl B W⟩

theorem bEnd_any (B : Nat) (l : List UInt8) (e : Int) (W : World) (h : RdrB W B l e) :
    Calls Tryz.prog 93 #[.pointer (some ⟨B, 0, none⟩)] W fun x w' => x = .returned (.int .i64 (rdEnd l e)) ∧ W = w' := by
  have HE := hid (fun w (hw : W = w) => bErr_any B l e w (hw ▸ h))
  obtain ⟨a, cap, hB, hs, hloc⟩ := h
  have HLOC := hid hloc
  clear hloc
  obtain ⟨c0, c1, f0, f1⟩ := two_cells hB
  clear hB hs
  by_cases he : e = 0
  · subst he
    by_cases hl : 0 < l.length
    · have hl' : (0 : Int) < l.length := by omega
      have hd : decide (0 < l.length) = true := by simp; omega
      have HR : Hid (rdEnd l 0 = 3) := hid (by rw [rdEnd, if_pos rfl, if_pos hl])
      clear hl
      go_enter Tryz.func93, Tryz.ntmps93
      go_wp2_with (go_at_call 88; refine (HE.out _ rfl).mono ?_; rintro e w' ⟨rfl, rfl⟩)
      go_ret
      exact ⟨by rw [HR.out]; rfl, rfl⟩
    · have hl' : l.length = 0 := by omega
      have HR : Hid (rdEnd l 0 = 0) := hid (by rw [rdEnd, if_pos rfl, if_neg hl])
      rw [hl'] at c0
      clear hl hl'
      go_enter Tryz.func93, Tryz.ntmps93
      go_wp2_with (go_at_call 88; refine (HE.out _ rfl).mono ?_; rintro e w' ⟨rfl, rfl⟩)
      go_ret
      exact ⟨by rw [HR.out]; rfl, rfl⟩
  · have hne : (e != 0) = true := by simp [he]
    have HR : Hid (rdEnd l e = e) := hid (by rw [rdEnd, if_neg he])
    clear he
    go_enter Tryz.func93, Tryz.ntmps93
    go_wp2_with (go_at_call 88; refine (HE.out _ rfl).mono ?_; rintro e w' ⟨rfl, rfl⟩)
    go_ret
    exact ⟨by rw [HR.out]; rfl, rfl⟩

theorem btake_any (B : Nat) (has least most : Int) (l : List UInt8) (e : Int) (W : World) (h : RdrB W B l e) (hb : Bool) (hh : (has == 0) = !hb) :
    Calls Tryz.prog 91 #[.pointer (some ⟨B, 0, none⟩), .int .i64 has, .int .i64 least, .int .i64 most] W fun x w' => x = .returned (.int .i64 ((takeS hb least most l e).1 : Nat)) ∧ RdrB w' B (takeS hb least most l e).2.1 (takeS hb least most l e).2.2 ∧ Only B W w' := by
  cases hb with
  | false =>
    have hh' : (has == 0) = true := by simpa using hh
    clear hh
    have H := hid h
    clear h
    go_enter Tryz.func91, Tryz.ntmps91
    go_wp2
    go_ret
    exact ⟨rfl, H.out, Only.refl B W⟩
  | true =>
    have hh' : (has == 0) = false := by simpa using hh
    have HR : Hid (takeS true least most l e = if ((rdNum most l e).1 : Int) < least then ((rdNum most l e).1, (rdNum most l e).2.1, rdFail 3 (rdNum most l e).2.2) else rdNum most l e) := hid rfl
    have HN := hid (bNum_any B l e most W h)
    clear hh h
    generalize rdNum most l e = t at *
    obtain ⟨n, l2, e2⟩ := t
    simp only at HR HN
    by_cases hlt : (n : Int) < least
    · have hd : decide ((n : Int) < least) = true := decide_eq_true hlt
      rw [if_pos hlt] at HR
      go_enter Tryz.func91, Tryz.ntmps91
      go_wp2_with fail
      refine HN.out.mono ?_
      rintro x w1 ⟨rfl, hR, hO⟩
      have HF := hid (bFail_any B l2 e2 3 w1 hR)
      have HO := hid hO
      clear hR hO
      go_wp2_with fail
      refine HF.out.mono ?_
      rintro x w2 ⟨⟨v, rfl⟩, hR2, hO2⟩
      have HR2 := hid hR2
      have HO2 := hid hO2
      clear hR2 hO2
      go_wp2
      go_ret
      rw [HR.out]
      exact ⟨rfl, HR2.out, HO.out.trans HO2.out⟩
    · have hd : decide ((n : Int) < least) = false := decide_eq_false hlt
      rw [if_neg hlt] at HR
      have hlt' : least ≤ (n : Int) := by omega
      go_enter Tryz.func91, Tryz.ntmps91
      go_wp2_with fail
      refine HN.out.mono ?_
      rintro x w1 ⟨rfl, hR, hO⟩
      have HRR := hid hR
      have HO := hid hO
      clear hR hO
      go_wp2
      go_ret
      rw [HR.out]
      exact ⟨rfl, HRR.out, HO.out⟩
end Go.Proofs.YtkepfkfoblocgaaGreat

namespace Go.Proofs.YtkepfkfoblocgaaGreat
open Go.RowKit
set_option linter.unusedVariables false
set_option linter.unusedSimpArgs false

def qa (l : List UInt8) : Nat × List UInt8 × Int := takeS true 1 4 l 0
def qj (l : List UInt8) : Nat × List UInt8 × Int := takeS true 1 72057594037927935 (qa l).2.1 (qa l).2.2
def qt (l : List UInt8) : Nat × List UInt8 × Int := takeS (hasR (qa l).1 1) 0 15 (qj l).2.1 (qj l).2.2
def qw (l : List UInt8) : Nat × List UInt8 × Int := takeS (hasR (qa l).1 2) 0 63 (qt l).2.1 (qt l).2.2
def qs (l : List UInt8) : Nat × List UInt8 × Int := takeS (hasR (qa l).1 3) 0 7 (qw l).2.1 (qw l).2.2
def qe (l : List UInt8) : Nat × List UInt8 × Int := takeS (hasR (qa l).1 4) 1 9 (qs l).2.1 (qs l).2.2
def qn (l : List UInt8) : Nat × List UInt8 × Int := takeS (hasR (qa l).1 5) 1 16 (qe l).2.1 (qe l).2.2
/-- n texts that are read. -/
def rts : Nat → List UInt8 → Int → List (List UInt8) × List UInt8 × Int
  | 0, l, e => ([], l, e)
  | n + 1, l, e => ((rdText 200 l e).1 :: (rts n (rdText 200 l e).2.1 (rdText 200 l e).2.2).1, (rts n (rdText 200 l e).2.1 (rdText 200 l e).2.2).2)
def qx (l : List UInt8) : List (List UInt8) × List UInt8 × Int := rts (qn l).1 (qn l).2.1 (qn l).2.2
def qk (l : List UInt8) : Int := rdEnd (qx l).2.1 (qx l).2.2
/-- The record that is parsed. -/
def pr (l : List UInt8) : Rc := if qk l = 0 then ⟨(qa l).1, (qj l).1, (qt l).1, (qw l).1, (qs l).1, (qe l).1, (qx l).1⟩ else ⟨0, 0, 0, 0, 0, 0, []⟩

theorem takeS_most (hb : Bool) (least most : Int) (h0 : 0 ≤ most) (l : List UInt8) (e : Int) : (((takeS hb least most l e).1 : Nat) : Int) ≤ most := by
  have h : (((rdNum most l e).1 : Nat) : Int) ≤ most := by
    unfold rdNum
    split
    · split
      · rename_i hf
        obtain ⟨u1, u2, n1, n2⟩ := firstN_used most l hf
        simp only
        omega
      · simpa using h0
    · simpa using h0
  unfold takeS
  split
  · split
    · exact h
    · exact h
  · simpa using h0
theorem rts_succ (n : Nat) (l : List UInt8) (e : Int) : rts (n + 1) l e = ((rdText 200 l e).1 :: (rts n (rdText 200 l e).2.1 (rdText 200 l e).2.2).1, (rts n (rdText 200 l e).2.1 (rdText 200 l e).2.2).2) := rfl
theorem rdText_le (l : List UInt8) (e : Int) : (rdText 200 l e).1.length ≤ 200 := by
  unfold rdText
  split
  · split
    · rename_i h0
      obtain ⟨u1, u2, n1, n2⟩ := firstN_used 200 l h0
      split
      · simp
      · simp only [List.length_take]
        omega
    · simp
  · simp
theorem rts_step {n c : Nat} {l0 l : List UInt8} {e0 e : Int} {m : List (List UInt8)} (hc : c < n) (h : rts n l0 e0 = (m ++ (rts (n - c) l e).1, (rts (n - c) l e).2)) :
    rts n l0 e0 = ((m ++ [(rdText 200 l e).1]) ++ (rts (n - (c + 1)) (rdText 200 l e).2.1 (rdText 200 l e).2.2).1, (rts (n - (c + 1)) (rdText 200 l e).2.1 (rdText 200 l e).2.2).2) := by
  obtain ⟨d, hd⟩ : ∃ d, n - c = d + 1 := ⟨n - c - 1, by omega⟩
  have hd2 : n - (c + 1) = d := by omega
  rw [h, hd, hd2, rts_succ]
  simp only [List.append_assoc, List.singleton_append]
theorem rts_le : ∀ (n : Nat) (l : List UInt8) (e : Int), (rts n l e).1.length = n ∧ ∀ s ∈ (rts n l e).1, s.length ≤ 200
  | 0, l, e => ⟨rfl, by simp [rts]⟩
  | n + 1, l, e => by
    obtain ⟨h1, h2⟩ := rts_le n (rdText 200 l e).2.1 (rdText 200 l e).2.2
    rw [rts_succ]
    refine ⟨by simp [h1], fun s hs => ?_⟩
    simp only [List.mem_cons] at hs
    rcases hs with rfl | hs
    · exact rdText_le l e
    · exact h2 s hs

theorem seven_frz {w : World} {b t : Nat} {xs : Array Value} (h : w.heap[b]? = some (.cells xs t (0, 0))) :
    w.frozen? ⟨b, 0, none⟩ = false ∧ w.frozen? ⟨b, 1, none⟩ = false ∧ w.frozen? ⟨b, 2, none⟩ = false ∧ w.frozen? ⟨b, 3, none⟩ = false ∧ w.frozen? ⟨b, 4, none⟩ = false ∧ w.frozen? ⟨b, 5, none⟩ = false ∧ w.frozen? ⟨b, 6, none⟩ = false :=
  ⟨frozen_of_row w b 0 _ t h, frozen_of_row w b 1 _ t h, frozen_of_row w b 2 _ t h, frozen_of_row w b 3 _ t h, frozen_of_row w b 4 _ t h, frozen_of_row w b 5 _ t h, frozen_of_row w b 6 _ t h⟩
def put7 (w : World) (b : Nat) (a0 a1 a2 a3 a4 a5 a6 : Value) : World := ((((((w.setCell ⟨b, 0, none⟩ a0).setCell ⟨b, 1, none⟩ a1).setCell ⟨b, 2, none⟩ a2).setCell ⟨b, 3, none⟩ a3).setCell ⟨b, 4, none⟩ a4).setCell ⟨b, 5, none⟩ a5).setCell ⟨b, 6, none⟩ a6
theorem put7_heap {w : World} {b t : Nat} {x0 x1 x2 x3 x4 x5 x6 : Value} (h : w.heap[b]? = some (.cells #[x0, x1, x2, x3, x4, x5, x6] t (0, 0))) (a0 a1 a2 a3 a4 a5 a6 : Value) :
    (put7 w b a0 a1 a2 a3 a4 a5 a6).heap[b]? = some (.cells #[a0, a1, a2, a3, a4, a5, a6] t (0, 0)) := by
  have h1 := heap_setCell_same w b 0 _ t a0 h
  have h2 := heap_setCell_same _ b 1 _ t a1 h1
  have h3 := heap_setCell_same _ b 2 _ t a2 h2
  have h4 := heap_setCell_same _ b 3 _ t a3 h3
  have h5 := heap_setCell_same _ b 4 _ t a4 h4
  have h6 := heap_setCell_same _ b 5 _ t a5 h5
  have h7 := heap_setCell_same _ b 6 _ t a6 h6
  unfold put7
  rw [h7]
  rfl
theorem put7_below {n : Nat} {W w : World} {b : Nat} (h : Below n W w) (hb : n ≤ b) (a0 a1 a2 a3 a4 a5 a6 : Value) : Below n W (put7 w b a0 a1 a2 a3 a4 a5 a6) :=
  ((((((h.setCell (p := ⟨b, 0, none⟩) hb a0).setCell (p := ⟨b, 1, none⟩) hb a1).setCell (p := ⟨b, 2, none⟩) hb a2).setCell (p := ⟨b, 3, none⟩) hb a3).setCell (p := ⟨b, 4, none⟩) hb a4).setCell (p := ⟨b, 5, none⟩) hb a5).setCell (p := ⟨b, 6, none⟩) hb a6
theorem put7_own {w : World} {b base e s n : Nat} {v : Value} {xs : List Value} (h : w.ownsRow base e s v n xs) (hb : b < base) (a0 a1 a2 a3 a4 a5 a6 : Value) : (put7 w b a0 a1 a2 a3 a4 a5 a6).ownsRow base e s v n xs :=
  own_setOld (own_setOld (own_setOld (own_setOld (own_setOld (own_setOld (own_setOld h ⟨b, 0, none⟩ a0 hb) ⟨b, 1, none⟩ a1 hb) ⟨b, 2, none⟩ a2 hb) ⟨b, 3, none⟩ a3 hb) ⟨b, 4, none⟩ a4 hb) ⟨b, 5, none⟩ a5 hb) ⟨b, 6, none⟩ a6 hb

/-- What a walk of Parse holds. -/
structure PR (W w : World) (B M : Nat) (l : List UInt8) (e k j t wk s p : Int) (v : Value) : Prop where
  r : w.heap[W.heap.size]? = some (.cells #[.int .i64 0, .int .i64 0, .int .i64 0, .int .i64 0, .int .i64 0, .int .i64 0, .slice none 0 0] 46 (0, 0))
  b : RdrB w B l e
  m : w.heap[M]? = some (.cells #[.int .i64 k, .int .i64 j, .int .i64 t, .int .i64 wk, .int .i64 s, .int .i64 p, v] 46 (0, 0))
  bel : Below W.heap.size W w
  rb : W.heap.size < B
  bm : B < M
theorem PR.lt {W w : World} {B M : Nat} {l : List UInt8} {e k j t wk s p : Int} {v : Value} (h : PR W w B M l e k j t wk s p v) : M < w.heap.size := lt_of_block h.m
theorem PR.go {W w w' : World} {B M : Nat} {l l2 : List UInt8} {e e2 k j t wk s p : Int} {v : Value} (h : PR W w B M l e k j t wk s p v) (ho : Only B w w') (hr : RdrB w' B l2 e2) : PR W w' B M l2 e2 k j t wk s p v :=
  ⟨ho.block h.r (Nat.ne_of_lt h.rb), hr, ho.block h.m (Nat.ne_of_gt h.bm), h.bel.trans (ho.below W.heap.size (Nat.le_of_lt h.rb) h.bel.size), h.rb, h.bm⟩
theorem PR.keep {W w w' : World} {B M : Nat} {l : List UInt8} {e k j t wk s p : Int} {v : Value} (h : PR W w B M l e k j t wk s p v) (hb : Below (M + 1) w w') : PR W w' B M l e k j t wk s p v :=
  ⟨(hb.block _ (by have := h.rb; have := h.bm; omega)).trans h.r, h.b.keep (hb.mono (by have := h.bm; omega)), (hb.block M (Nat.lt_succ_self M)).trans h.m, h.bel.trans (hb.mono (by have := h.rb; have := h.bm; omega)), h.rb, h.bm⟩
theorem PR.set1 {W w : World} {B M : Nat} {l : List UInt8} {e k j t wk s p : Int} {v : Value} (h : PR W w B M l e k j t wk s p v) (x : Int) : PR W (w.setCell ⟨M, 1, none⟩ (.int .i64 x)) B M l e k x t wk s p v :=
  ⟨(Below.heap_setCell _ _ _ _ (show W.heap.size ≠ M by have := h.rb; have := h.bm; omega)).trans h.r, h.b.keep ((Below.refl _ _).setCell (p := ⟨M, 1, none⟩) h.bm _), heap_setCell_same w M 1 _ _ _ h.m, h.bel.setCell (p := ⟨M, 1, none⟩) (show W.heap.size ≤ M by have := h.rb; have := h.bm; omega) _, h.rb, h.bm⟩
theorem PR.set2 {W w : World} {B M : Nat} {l : List UInt8} {e k j t wk s p : Int} {v : Value} (h : PR W w B M l e k j t wk s p v) (x : Int) : PR W (w.setCell ⟨M, 2, none⟩ (.int .i64 x)) B M l e k j x wk s p v :=
  ⟨(Below.heap_setCell _ _ _ _ (show W.heap.size ≠ M by have := h.rb; have := h.bm; omega)).trans h.r, h.b.keep ((Below.refl _ _).setCell (p := ⟨M, 2, none⟩) h.bm _), heap_setCell_same w M 2 _ _ _ h.m, h.bel.setCell (p := ⟨M, 2, none⟩) (show W.heap.size ≤ M by have := h.rb; have := h.bm; omega) _, h.rb, h.bm⟩
theorem PR.set3 {W w : World} {B M : Nat} {l : List UInt8} {e k j t wk s p : Int} {v : Value} (h : PR W w B M l e k j t wk s p v) (x : Int) : PR W (w.setCell ⟨M, 3, none⟩ (.int .i64 x)) B M l e k j t x s p v :=
  ⟨(Below.heap_setCell _ _ _ _ (show W.heap.size ≠ M by have := h.rb; have := h.bm; omega)).trans h.r, h.b.keep ((Below.refl _ _).setCell (p := ⟨M, 3, none⟩) h.bm _), heap_setCell_same w M 3 _ _ _ h.m, h.bel.setCell (p := ⟨M, 3, none⟩) (show W.heap.size ≤ M by have := h.rb; have := h.bm; omega) _, h.rb, h.bm⟩
theorem PR.set4 {W w : World} {B M : Nat} {l : List UInt8} {e k j t wk s p : Int} {v : Value} (h : PR W w B M l e k j t wk s p v) (x : Int) : PR W (w.setCell ⟨M, 4, none⟩ (.int .i64 x)) B M l e k j t wk x p v :=
  ⟨(Below.heap_setCell _ _ _ _ (show W.heap.size ≠ M by have := h.rb; have := h.bm; omega)).trans h.r, h.b.keep ((Below.refl _ _).setCell (p := ⟨M, 4, none⟩) h.bm _), heap_setCell_same w M 4 _ _ _ h.m, h.bel.setCell (p := ⟨M, 4, none⟩) (show W.heap.size ≤ M by have := h.rb; have := h.bm; omega) _, h.rb, h.bm⟩
theorem PR.set5 {W w : World} {B M : Nat} {l : List UInt8} {e k j t wk s p : Int} {v : Value} (h : PR W w B M l e k j t wk s p v) (x : Int) : PR W (w.setCell ⟨M, 5, none⟩ (.int .i64 x)) B M l e k j t wk s x v :=
  ⟨(Below.heap_setCell _ _ _ _ (show W.heap.size ≠ M by have := h.rb; have := h.bm; omega)).trans h.r, h.b.keep ((Below.refl _ _).setCell (p := ⟨M, 5, none⟩) h.bm _), heap_setCell_same w M 5 _ _ _ h.m, h.bel.setCell (p := ⟨M, 5, none⟩) (show W.heap.size ≤ M by have := h.rb; have := h.bm; omega) _, h.rb, h.bm⟩
theorem PR.set6 {W w : World} {B M : Nat} {l : List UInt8} {e k j t wk s p : Int} {v : Value} (h : PR W w B M l e k j t wk s p v) (x : Value) : PR W (w.setCell ⟨M, 6, none⟩ x) B M l e k j t wk s p x :=
  ⟨(Below.heap_setCell _ _ _ _ (show W.heap.size ≠ M by have := h.rb; have := h.bm; omega)).trans h.r, h.b.keep ((Below.refl _ _).setCell (p := ⟨M, 6, none⟩) h.bm _), heap_setCell_same w M 6 _ _ _ h.m, h.bel.setCell (p := ⟨M, 6, none⟩) (show W.heap.size ≤ M by have := h.rb; have := h.bm; omega) _, h.rb, h.bm⟩
/-- Texts of the call's own. -/
def OwnS (w : World) (B : Nat) (A : Option Addr) (c : Nat) (l : List (List UInt8)) : Prop := w.ownsRow B 9 1 (.slice A l.length c) l.length (scells l) ∧ ∀ s ∈ l, s.length ≤ 200
theorem OwnS.tx {w : World} {B : Nat} {A : Option Addr} {c : Nat} {l : List (List UInt8)} (h : OwnS w B A c l) : TxAt w A c l := ⟨sl_own h.1, fun s hs => Nat.le_trans (h.2 s hs) (by unfold maxLen; omega)⟩
theorem OwnS.keep {w w' : World} {B : Nat} {A : Option Addr} {c : Nat} {l : List (List UInt8)} (h : OwnS w B A c l) (hb : Below w.heap.size w w') : OwnS w' B A c l := ⟨own_keep h.1 hb, h.2⟩
theorem own_only {w w' : World} {base e s n B : Nat} {v : Value} {xs : List Value} (h : w.ownsRow base e s v n xs) (ho : Only B w w') (hB : B < base) : w'.ownsRow base e s v n xs :=
  own_block h (fun g o hg h1 => ho.block h1 (by omega))

set_option maxRecDepth 20000 in
set_option maxHeartbeats 8000000 in
theorem rparse_own (A : Option Addr) (cp : Nat) (l : List UInt8) (W : World) (hby : IsBytes W A l.length cp l) (hl : l.length ≤ 100000) :
    Calls Tryz.prog 66 #[.slice A l.length cp] W fun x w' => ∃ A' c', x = .returned (.tuple #[.agg (rcc (pr l) A' c'), .int .i64 (qk l)]) ∧ OwnS w' W.heap.size A' c' (pr l).ns ∧ RowKit.Below W.heap.size W w' := by
  have HPR : Hid (pr l = if qk l = 0 then ⟨(qa l).1, (qj l).1, (qt l).1, (qw l).1, (qs l).1, (qe l).1, (qx l).1⟩ else ⟨0, 0, 0, 0, 0, 0, []⟩) := hid rfl
  have hqa : Hid (qa l = takeS true 1 4 l 0) := hid rfl
  have hqj : Hid (qj l = takeS true 1 72057594037927935 (qa l).2.1 (qa l).2.2) := hid rfl
  have hqt : Hid (qt l = takeS (hasR (qa l).1 1) 0 15 (qj l).2.1 (qj l).2.2) := hid rfl
  have hqw : Hid (qw l = takeS (hasR (qa l).1 2) 0 63 (qt l).2.1 (qt l).2.2) := hid rfl
  have hqs : Hid (qs l = takeS (hasR (qa l).1 3) 0 7 (qw l).2.1 (qw l).2.2) := hid rfl
  have hqe : Hid (qe l = takeS (hasR (qa l).1 4) 1 9 (qs l).2.1 (qs l).2.2) := hid rfl
  have hqn : Hid (qn l = takeS (hasR (qa l).1 5) 1 16 (qe l).2.1 (qe l).2.2) := hid rfl
  have hqx : Hid (qx l = rts (qn l).1 (qn l).2.1 (qn l).2.2) := hid rfl
  have hqk : Hid (qk l = rdEnd (qx l).2.1 (qx l).2.2) := hid rfl
  have hn16 : (qn l).1 ≤ 16 := by
    have := takeS_most (hasR (qa l).1 5) 1 16 (by omega) (qe l).2.1 (qe l).2.2
    rw [← hqn.out] at this
    omega
  have HN := hid (fun w (hw : IsBytes w A l.length cp l) => bnew_any A l.length cp l w hw hl)
  have HBY := hid hby
  clear hby
  generalize pr l = vp at *
  generalize qk l = vk at *
  generalize qx l = vx at *
  generalize qn l = vn at *
  generalize qe l = ve at *
  generalize qs l = vs at *
  generalize qw l = vw at *
  generalize qt l = vt at *
  generalize qj l = vj at *
  generalize qa l = va at *
  obtain ⟨k, la, ea⟩ := va
  obtain ⟨j, lj, ej⟩ := vj
  obtain ⟨t, lt, et⟩ := vt
  obtain ⟨wk, lw, ew⟩ := vw
  obtain ⟨s, ls, es⟩ := vs
  obtain ⟨p, le, ee⟩ := ve
  obtain ⟨n, ln, en⟩ := vn
  obtain ⟨xs, lx, ex⟩ := vx
  simp only at *
  have HF := hid (fun w => rfields_any (k : Int) w)
  obtain ⟨hb1, hb2, hb3, hb4, hb5⟩ := fldR_has (k : Int)
  have Hb := hid (And.intro hb1 (And.intro hb2 (And.intro hb3 (And.intro hb4 hb5))))
  clear hb1 hb2 hb3 hb4 hb5
  generalize fldR (k : Int) = f at *
  generalize isK (k : Int) = bk at *
  generalize hasR (k : Int) 1 = q1 at *
  generalize hasR (k : Int) 2 = q2 at *
  generalize hasR (k : Int) 3 = q3 at *
  generalize hasR (k : Int) 4 = q4 at *
  generalize hasR (k : Int) 5 = q5 at *
  generalize hll : l.length = ll at *
  clear hll
  go_enter Tryz.func66, Tryz.ntmps66
  go_upto_region 1 with (fail)
  refine at_world (fun w => w.heap[W.heap.size]? = some (.cells #[.int .i64 0, .int .i64 0, .int .i64 0, .int .i64 0, .int .i64 0, .int .i64 0, .slice none 0 0] 46 (0, 0)) ∧ RowKit.Below W.heap.size W w) ⟨heap_alloc_new _ _, (Below.refl _ _).alloc (Nat.le_refl _) _⟩ ?_
  rintro w1 ⟨hR1, hB1⟩
  have HB1 := hid hB1
  have HR1 := hid hR1
  clear hR1 hB1
  go_wp2_with fail
  refine (HN.out _ (HBY.out.below HB1.out)).mono ?_
  rintro x w3 ⟨B, rfl, hB, hR3, hb3⟩
  have HK3 : Hid (w3.heap[W.heap.size]? = some (.cells #[.int .i64 0, .int .i64 0, .int .i64 0, .int .i64 0, .int .i64 0, .int .i64 0, .slice none 0 0] 46 (0, 0)) ∧ RowKit.Below W.heap.size W w3 ∧ W.heap.size < B) := hid ⟨keep0 HR1.out hb3, HB1.out.trans (hb3.mono HB1.out.size), Nat.lt_of_lt_of_le (lt_of_block HR1.out) hB⟩
  have HT := hid (btake_any B 1 1 4 _ 0 w3 hR3 true rfl)
  rw [← hqa.out] at HT
  simp only at HT
  clear hb3 hR3 HN HB1 HR1 hqa hB
  go_wp2_with fail
  refine HT.out.mono ?_
  rintro x w4 ⟨rfl, hR4, hO4⟩
  have K4 : Hid (PR W (w4.alloc (.cells #[.int .i64 k, .int .i64 0, .int .i64 0, .int .i64 0, .int .i64 0, .int .i64 0, .slice none 0 0] 46)) B w4.heap.size la ea k 0 0 0 0 0 (.slice none 0 0)) := by
    have h1 := hO4.block HK3.out.1 (by have := HK3.out.2.2; omega)
    have h2 := HK3.out.2.1.trans (hO4.below W.heap.size (Nat.le_of_lt HK3.out.2.2) HK3.out.2.1.size)
    have h3 : B < w4.heap.size := hR4.lt
    exact hid ⟨(Below.heap_alloc _ _ _ (lt_of_block h1)).trans h1, hR4.below ((Below.refl _ _).alloc (Nat.le_refl _) _), heap_alloc_new _ _, h2.alloc h2.size _, HK3.out.2.2, h3⟩
  clear hR4 hO4 HT HK3
  go_upto_region 3 with (fail)
  have K4' := K4.out
  clear K4
  generalize w4.heap.size = M at K4' ⊢
  refine at_world (fun w => PR W w B M la ea k 0 0 0 0 0 (.slice none 0 0)) K4' ?_
  clear K4'
  rintro w5 K
  have HK0 := hid K
  obtain ⟨p0, p1, p2, p3, p4, p5, p6⟩ := seven_cells K.m
  obtain ⟨f0, f1, f2, f3, f4, f5, f6⟩ := seven_frz K.m
  have HT := hid (btake_any B 1 1 72057594037927935 _ _ _ K.b true rfl)
  rw [← hqj.out] at HT
  simp only at HT
  clear K
  go_wp2_with (go_at_call 73; refine (HF.out _).mono ?_; rintro x w' ⟨rfl, rfl⟩)
  refine HT.out.mono ?_
  rintro x u4 ⟨rfl, hR, hO⟩
  have HK := hid (HK0.out.go hO hR)
  clear HK0 hR hO HT hqj HF p0 p1 p2 p3 p4 p5 p6 f0 f1 f2 f3 f4 f5 f6
  obtain ⟨p0, p1, p2, p3, p4, p5, p6⟩ := seven_cells HK.out.m
  obtain ⟨f0, f1, f2, f3, f4, f5, f6⟩ := seven_frz HK.out.m
  go_upto_region 5 with (fail)
  refine at_world (fun w => PR W w B M lj ej k j 0 0 0 0 (.slice none 0 0)) (HK.out.set1 _) ?_
  clear HK p0 p1 p2 p3 p4 p5 p6 f0 f1 f2 f3 f4 f5 f6
  rintro z4 K
  have HK1 := hid K
  obtain ⟨p0, p1, p2, p3, p4, p5, p6⟩ := seven_cells K.m
  obtain ⟨f0, f1, f2, f3, f4, f5, f6⟩ := seven_frz K.m
  have HT := hid (btake_any B (bits .and .i64 f 1) 0 15 _ _ _ K.b _ Hb.out.1)
  rw [← hqt.out] at HT
  simp only at HT
  clear K
  go_wp2_with fail
  refine HT.out.mono ?_
  rintro x u5 ⟨rfl, hR, hO⟩
  have HK := hid (HK1.out.go hO hR)
  clear HK1 hR hO HT hqt p0 p1 p2 p3 p4 p5 p6 f0 f1 f2 f3 f4 f5 f6
  obtain ⟨p0, p1, p2, p3, p4, p5, p6⟩ := seven_cells HK.out.m
  obtain ⟨f0, f1, f2, f3, f4, f5, f6⟩ := seven_frz HK.out.m
  go_upto_region 6 with (fail)
  refine at_world (fun w => PR W w B M lt et k j t 0 0 0 (.slice none 0 0)) (HK.out.set2 _) ?_
  clear HK p0 p1 p2 p3 p4 p5 p6 f0 f1 f2 f3 f4 f5 f6
  rintro z5 K
  have HK2 := hid K
  obtain ⟨p0, p1, p2, p3, p4, p5, p6⟩ := seven_cells K.m
  obtain ⟨f0, f1, f2, f3, f4, f5, f6⟩ := seven_frz K.m
  have HT := hid (btake_any B (bits .and .i64 f 2) 0 63 _ _ _ K.b _ Hb.out.2.1)
  rw [← hqw.out] at HT
  simp only at HT
  clear K
  go_wp2_with fail
  refine HT.out.mono ?_
  rintro x u6 ⟨rfl, hR, hO⟩
  have HK := hid (HK2.out.go hO hR)
  clear HK2 hR hO HT hqw p0 p1 p2 p3 p4 p5 p6 f0 f1 f2 f3 f4 f5 f6
  obtain ⟨p0, p1, p2, p3, p4, p5, p6⟩ := seven_cells HK.out.m
  obtain ⟨f0, f1, f2, f3, f4, f5, f6⟩ := seven_frz HK.out.m
  go_upto_region 7 with (fail)
  refine at_world (fun w => PR W w B M lw ew k j t wk 0 0 (.slice none 0 0)) (HK.out.set3 _) ?_
  clear HK p0 p1 p2 p3 p4 p5 p6 f0 f1 f2 f3 f4 f5 f6
  rintro z6 K
  have HK3 := hid K
  obtain ⟨p0, p1, p2, p3, p4, p5, p6⟩ := seven_cells K.m
  obtain ⟨f0, f1, f2, f3, f4, f5, f6⟩ := seven_frz K.m
  have HT := hid (btake_any B (bits .and .i64 f 4) 0 7 _ _ _ K.b _ Hb.out.2.2.1)
  rw [← hqs.out] at HT
  simp only at HT
  clear K
  go_wp2_with fail
  refine HT.out.mono ?_
  rintro x u7 ⟨rfl, hR, hO⟩
  have HK := hid (HK3.out.go hO hR)
  clear HK3 hR hO HT hqs p0 p1 p2 p3 p4 p5 p6 f0 f1 f2 f3 f4 f5 f6
  obtain ⟨p0, p1, p2, p3, p4, p5, p6⟩ := seven_cells HK.out.m
  obtain ⟨f0, f1, f2, f3, f4, f5, f6⟩ := seven_frz HK.out.m
  go_upto_region 8 with (fail)
  refine at_world (fun w => PR W w B M ls es k j t wk s 0 (.slice none 0 0)) (HK.out.set4 _) ?_
  clear HK p0 p1 p2 p3 p4 p5 p6 f0 f1 f2 f3 f4 f5 f6
  rintro z7 K
  have HK4 := hid K
  obtain ⟨p0, p1, p2, p3, p4, p5, p6⟩ := seven_cells K.m
  obtain ⟨f0, f1, f2, f3, f4, f5, f6⟩ := seven_frz K.m
  have HT := hid (btake_any B (bits .and .i64 f 8) 1 9 _ _ _ K.b _ Hb.out.2.2.2.1)
  rw [← hqe.out] at HT
  simp only at HT
  clear K
  go_wp2_with fail
  refine HT.out.mono ?_
  rintro x u8 ⟨rfl, hR, hO⟩
  have HK := hid (HK4.out.go hO hR)
  clear HK4 hR hO HT hqe p0 p1 p2 p3 p4 p5 p6 f0 f1 f2 f3 f4 f5 f6
  obtain ⟨p0, p1, p2, p3, p4, p5, p6⟩ := seven_cells HK.out.m
  obtain ⟨f0, f1, f2, f3, f4, f5, f6⟩ := seven_frz HK.out.m
  go_upto_region 9 with (fail)
  refine at_world (fun w => PR W w B M le ee k j t wk s p (.slice none 0 0)) (HK.out.set5 _) ?_
  clear HK p0 p1 p2 p3 p4 p5 p6 f0 f1 f2 f3 f4 f5 f6
  rintro z8 K
  have HK5 := hid K
  obtain ⟨p0, p1, p2, p3, p4, p5, p6⟩ := seven_cells K.m
  obtain ⟨f0, f1, f2, f3, f4, f5, f6⟩ := seven_frz K.m
  have HT := hid (btake_any B (bits .and .i64 f 16) 1 16 _ _ _ K.b _ Hb.out.2.2.2.2)
  rw [← hqn.out] at HT
  simp only at HT
  clear K
  go_wp2_with fail
  refine HT.out.mono ?_
  rintro x u9 ⟨rfl, hR, hO⟩
  have HK := hid (HK5.out.go hO hR)
  clear HK5 hR hO HT hqn p0 p1 p2 p3 p4 p5 p6 f0 f1 f2 f3 f4 f5 f6 Hb
  go_wp2_with fail
  go_loopw [47] (fun i wr => ∃ (c : Nat) (Ai : Option Addr) (ci : Nat) (m : List (List UInt8)) (li : List UInt8) (ei : Int), c ≤ n ∧ i = .int .i64 (c : Int) ∧ m.length = c ∧ Hid (rts n ln en = (m ++ (rts (n - c) li ei).1, (rts (n - c) li ei).2)) ∧ Hid (PR W wr B M li ei k j t wk s p (.slice Ai c ci)) ∧ Hid (wr.ownsRow (M + 1) 9 1 (.slice Ai c ci) c (scells m))) (fun i _ => n - (intOf i).toNat)
  case atStart => exact ⟨0, none, 0, [], ln, en, by omega, rfl, rfl, by rw [Hid]; simp, HK.out, World.ownsRow_nil _ _ _ _⟩
  case round =>
    obtain ⟨c, Ai, ci, m, li, ei, hcn, rfl, hmc, HR, HP, HO⟩ := hrel
    by_cases hlt : c < n
    · have hlt2 : (c : Int) < (n : Int) := by omega
      have HR2 := hid (rts_step hlt HR.out)
      have HLE := hid (rdText_le li ei)
      have HPd := hid (HP.out.keep (w' := wr.drew) (below_drew (Below.refl _ _)))
      have HOd : Hid (wr.drew.ownsRow (M + 1) 9 1 (.slice Ai c ci) c (scells m)) := hid (own_keep HO.out (below_drew (Below.refl _ _)))
      have HT := hid (bText_any B li ei 200 wr.drew HPd.out.b)
      have c6 := (seven_cells HP.out.m).2.2.2.2.2.2
      have hbel := HP.out.bel
      have hMW : W.heap.size ≤ M := by have := HP.out.rb; have := HP.out.bm; omega
      generalize rdText 200 li ei = r at *
      obtain ⟨sx, l2, e2⟩ := r
      simp only at HT HR2 HLE
      go_upto_region 11 with (fail)
      refine wp_region_held_drew (S := fun U => RowKit.Below W.heap.size W U) (by kernel_rfl) (below_drew hbel) (fun hHeld => ?_)
      refine tkA 0 ?_ rfl ?_ (by assumption) ?_; rotate_left; focus (intro U hU; (try dsimp only at hU); go_simp; try (with_reducible rfl))
      simp only [gt6, Act.put]
      refine tkA 2 ?_ rfl ?_ (by assumption) ?_; rotate_left; focus (intro U hU; (try dsimp only at hU); go_simp; try (with_reducible rfl))
      simp only [gt6, Act.put]
      refine wpAnyH_ready (rs := [1, 3]) (by kernel_rfl) (by simp) ?_
      refine (AllReadyH.cons rfl (fun K hK => ?_) (AllReadyH.cons rfl (fun K hK => ?_) AllReadyH.nil))
      · skip
        simp only [gt3]
        go_simp
        refine hK.out _ _ ?_ (fun hHeld2 => ?_)
        focus
          first | with_reducible assumption | (repeat' (first | with_reducible assumption | with_reducible refine below_drew ?_ | with_reducible refine bel_alloc ?_ _))
        clear hHeld
        have hHeld := hHeld2
        clear hHeld2 hK K
        try simp only [gt6, Act.put]
        refine wpAnyH_ready (rs := [3]) (by kernel_rfl) (by simp) ?_
        refine AllReadyH.cons rfl (fun K hK => ?_) AllReadyH.nil
        simp only [gt3]
        go_simp
        refine HT.out.mono ?_
        rintro q w3 ⟨rfl, hR3, hO3⟩
        have HP3 := hid (HPd.out.go hO3 hR3)
        have HO3 := hid (own_only HOd.out hO3 (Nat.lt_succ_of_lt HPd.out.bm))
        have hbel3 := HP3.out.bel
        have c63 := (seven_cells HP3.out.m).2.2.2.2.2.2
        have c6a : ∀ o : Obj, (w3.alloc o).cell? ⟨M, 6, none⟩ = some (.slice Ai c ci) := fun o => (seven_cells (HP3.out.keep ((Below.refl _ _).alloc HP3.out.lt o)).m).2.2.2.2.2.2
        have hM3 := HP3.out.lt
        clear hR3 hO3
        go_wp2_with fail
        refine hK.out _ _ ?_ (fun hHeld2 => ?_)
        focus
          first | with_reducible assumption | (repeat' (first | with_reducible assumption | with_reducible refine below_drew ?_ | with_reducible refine bel_alloc ?_ _))
        clear hHeld
        have hHeld := hHeld2
        clear hHeld2 hK K
        try simp only [gt6, Act.put]
        refine wpAnyH_ready (rs := [4]) (by kernel_rfl) (by simp) ?_
        refine (AllReadyH.cons rfl (fun K hK => ?_) AllReadyH.nil)
        simp only [gt3]
        go_simp
        refine hK.out _ _ ?_ (fun hHeld2 => ?_)
        focus
          first | with_reducible assumption | (repeat' (first | with_reducible assumption | with_reducible refine below_drew ?_ | with_reducible refine bel_alloc ?_ _))
        clear hHeld
        have hHeld := hHeld2
        clear hHeld2 hK K
        try simp only [gt6, Act.put]
        refine wpAnyH_ready (rs := [5]) (by kernel_rfl) (by simp) ?_
        refine (AllReadyH.cons rfl (fun K hK => ?_) AllReadyH.nil)
        refine step_append_sl rfl (.tmp 50) (.tmp 53) 44 rfl (M + 1) 9 Tryz.underlying44 info_str rfl (by omega) rfl (own_keep HO3.out ((Below.refl _ _).alloc (Nat.le_refl _) _)) rfl (Sl.lit _ _ 1 1 #[.string (str sx)] rfl (by unfold maxLen; omega)) (by simp [Value.oneCell']) (show c + 1 ≤ maxLen by unfold maxLen; omega) (show (c + 1) * 16 ≤ 140737488355328 by omega) (Nat.le_trans hM3 (Below.size ((Below.refl w3.heap.size w3).alloc (Nat.le_refl _) _))) ?_
        intro v5 w5 ho5 hb5 _ _
        have HP5 := hid (HP3.out.keep (((Below.refl _ _).alloc hM3 _).trans hb5))
        obtain ⟨A5, c5, rfl, _⟩ := Sl.of_own ho5
        have HO5 := hid ho5
        have c65 := (seven_cells HP5.out.m).2.2.2.2.2.2
        have f65 := (seven_frz HP5.out.m).2.2.2.2.2.2
        have hbel5 := HP5.out.bel
        have hbel6 := fun v => RowKit.Below.setCell (p := ⟨M, 6, none⟩) HP5.out.bel hMW v
        clear hb5 ho5
        refine hK.out _ _ ?_ (fun hHeld2 => ?_)
        focus
          exact hbel5
        clear hHeld
        have hHeld := hHeld2
        clear hHeld2 hK K
        try simp only [gt6, Act.put]
        refine tkA 6 ?_ rfl ?_ (by assumption) ?_; rotate_left; focus (intro U hU; (try dsimp only at hU); go_simp; try (with_reducible rfl))
        simp only [gt6, Act.put]
        refine wpAnyH_ready (rs := [7]) (by kernel_rfl) (by simp) ?_
        refine (AllReadyH.cons rfl (fun K hK => ?_) AllReadyH.nil)
        simp only [gt3]
        go_simp
        refine hK.out _ _ ?_ (fun hHeld2 => ?_)
        focus
          exact hbel6 _
        clear hHeld
        have hHeld := hHeld2
        clear hHeld2 hK K
        try simp only [gt6, Act.put]
        refine wpAnyH_done (by kernel_rfl) ?_ _
        clear hHeld c6 c63 c6a c65 f65 hbel hbel3 hbel5 hbel6
        go_wp2
        go_roundw
        case rel =>
          refine ⟨c + 1, A5, c5, m ++ [sx], l2, e2, by omega, by go_num, by simp [hmc], HR2.out, HP5.out.set6 _, ?_⟩
          rw [Hid, scells_snoc]
          exact own_setOld HO5.out _ _ (Nat.lt_succ_self M)
        case measure => simp [intOf]; omega
      · skip
        simp only [gt3]
        go_simp
        refine HT.out.mono ?_
        rintro q w3 ⟨rfl, hR3, hO3⟩
        have HP3 := hid (HPd.out.go hO3 hR3)
        have HO3 := hid (own_only HOd.out hO3 (Nat.lt_succ_of_lt HPd.out.bm))
        have hbel3 := HP3.out.bel
        have c63 := (seven_cells HP3.out.m).2.2.2.2.2.2
        have c6a : ∀ o : Obj, (w3.alloc o).cell? ⟨M, 6, none⟩ = some (.slice Ai c ci) := fun o => (seven_cells (HP3.out.keep ((Below.refl _ _).alloc HP3.out.lt o)).m).2.2.2.2.2.2
        have hM3 := HP3.out.lt
        clear hR3 hO3
        go_wp2_with fail
        refine hK.out _ _ ?_ (fun hHeld2 => ?_)
        focus
          first | with_reducible assumption | (repeat' (first | with_reducible assumption | with_reducible refine below_drew ?_ | with_reducible refine bel_alloc ?_ _))
        clear hHeld
        have hHeld := hHeld2
        clear hHeld2 hK K
        try simp only [gt6, Act.put]
        refine wpAnyH_ready (rs := [1, 4]) (by kernel_rfl) (by simp) ?_
        refine (AllReadyH.cons rfl (fun K hK => ?_) (AllReadyH.cons rfl (fun K hK => ?_) AllReadyH.nil))
        · skip
          simp only [gt3]
          go_simp
          refine hK.out _ _ ?_ (fun hHeld2 => ?_)
          focus
            first | with_reducible assumption | (repeat' (first | with_reducible assumption | with_reducible refine below_drew ?_ | with_reducible refine bel_alloc ?_ _))
          clear hHeld
          have hHeld := hHeld2
          clear hHeld2 hK K
          try simp only [gt6, Act.put]
          refine wpAnyH_ready (rs := [4]) (by kernel_rfl) (by simp) ?_
          refine (AllReadyH.cons rfl (fun K hK => ?_) AllReadyH.nil)
          simp only [gt3]
          go_simp
          refine hK.out _ _ ?_ (fun hHeld2 => ?_)
          focus
            first | with_reducible assumption | (repeat' (first | with_reducible assumption | with_reducible refine below_drew ?_ | with_reducible refine bel_alloc ?_ _))
          clear hHeld
          have hHeld := hHeld2
          clear hHeld2 hK K
          try simp only [gt6, Act.put]
          refine wpAnyH_ready (rs := [5]) (by kernel_rfl) (by simp) ?_
          refine (AllReadyH.cons rfl (fun K hK => ?_) AllReadyH.nil)
          refine step_append_sl rfl (.tmp 50) (.tmp 53) 44 rfl (M + 1) 9 Tryz.underlying44 info_str rfl (by omega) rfl (own_keep HO3.out ((Below.refl _ _).alloc (Nat.le_refl _) _)) rfl (Sl.lit _ _ 1 1 #[.string (str sx)] rfl (by unfold maxLen; omega)) (by simp [Value.oneCell']) (show c + 1 ≤ maxLen by unfold maxLen; omega) (show (c + 1) * 16 ≤ 140737488355328 by omega) (Nat.le_trans hM3 (Below.size ((Below.refl w3.heap.size w3).alloc (Nat.le_refl _) _))) ?_
          intro v5 w5 ho5 hb5 _ _
          have HP5 := hid (HP3.out.keep (((Below.refl _ _).alloc hM3 _).trans hb5))
          obtain ⟨A5, c5, rfl, _⟩ := Sl.of_own ho5
          have HO5 := hid ho5
          have c65 := (seven_cells HP5.out.m).2.2.2.2.2.2
          have f65 := (seven_frz HP5.out.m).2.2.2.2.2.2
          have hbel5 := HP5.out.bel
          have hbel6 := fun v => RowKit.Below.setCell (p := ⟨M, 6, none⟩) HP5.out.bel hMW v
          clear hb5 ho5
          refine hK.out _ _ ?_ (fun hHeld2 => ?_)
          focus
            exact hbel5
          clear hHeld
          have hHeld := hHeld2
          clear hHeld2 hK K
          try simp only [gt6, Act.put]
          refine tkA 6 ?_ rfl ?_ (by assumption) ?_; rotate_left; focus (intro U hU; (try dsimp only at hU); go_simp; try (with_reducible rfl))
          simp only [gt6, Act.put]
          refine wpAnyH_ready (rs := [7]) (by kernel_rfl) (by simp) ?_
          refine (AllReadyH.cons rfl (fun K hK => ?_) AllReadyH.nil)
          simp only [gt3]
          go_simp
          refine hK.out _ _ ?_ (fun hHeld2 => ?_)
          focus
            exact hbel6 _
          clear hHeld
          have hHeld := hHeld2
          clear hHeld2 hK K
          try simp only [gt6, Act.put]
          refine wpAnyH_done (by kernel_rfl) ?_ _
          clear hHeld c6 c63 c6a c65 f65 hbel hbel3 hbel5 hbel6
          go_wp2
          go_roundw
          case rel =>
            refine ⟨c + 1, A5, c5, m ++ [sx], l2, e2, by omega, by go_num, by simp [hmc], HR2.out, HP5.out.set6 _, ?_⟩
            rw [Hid, scells_snoc]
            exact own_setOld HO5.out _ _ (Nat.lt_succ_self M)
          case measure => simp [intOf]; omega
        · skip
          simp only [gt3]
          go_simp
          refine hK.out _ _ ?_ (fun hHeld2 => ?_)
          focus
            first | with_reducible assumption | (repeat' (first | with_reducible assumption | with_reducible refine below_drew ?_ | with_reducible refine bel_alloc ?_ _))
          clear hHeld
          have hHeld := hHeld2
          clear hHeld2 hK K
          try simp only [gt6, Act.put]
          refine wpAnyH_ready (rs := [1]) (by kernel_rfl) (by simp) ?_
          refine (AllReadyH.cons rfl (fun K hK => ?_) AllReadyH.nil)
          simp only [gt3]
          go_simp
          refine hK.out _ _ ?_ (fun hHeld2 => ?_)
          focus
            first | with_reducible assumption | (repeat' (first | with_reducible assumption | with_reducible refine below_drew ?_ | with_reducible refine bel_alloc ?_ _))
          clear hHeld
          have hHeld := hHeld2
          clear hHeld2 hK K
          try simp only [gt6, Act.put]
          refine wpAnyH_ready (rs := [5]) (by kernel_rfl) (by simp) ?_
          refine (AllReadyH.cons rfl (fun K hK => ?_) AllReadyH.nil)
          refine step_append_sl rfl (.tmp 50) (.tmp 53) 44 rfl (M + 1) 9 Tryz.underlying44 info_str rfl (by omega) rfl (own_keep HO3.out ((Below.refl _ _).alloc (Nat.le_refl _) _)) rfl (Sl.lit _ _ 1 1 #[.string (str sx)] rfl (by unfold maxLen; omega)) (by simp [Value.oneCell']) (show c + 1 ≤ maxLen by unfold maxLen; omega) (show (c + 1) * 16 ≤ 140737488355328 by omega) (Nat.le_trans hM3 (Below.size ((Below.refl w3.heap.size w3).alloc (Nat.le_refl _) _))) ?_
          intro v5 w5 ho5 hb5 _ _
          have HP5 := hid (HP3.out.keep (((Below.refl _ _).alloc hM3 _).trans hb5))
          obtain ⟨A5, c5, rfl, _⟩ := Sl.of_own ho5
          have HO5 := hid ho5
          have c65 := (seven_cells HP5.out.m).2.2.2.2.2.2
          have f65 := (seven_frz HP5.out.m).2.2.2.2.2.2
          have hbel5 := HP5.out.bel
          have hbel6 := fun v => RowKit.Below.setCell (p := ⟨M, 6, none⟩) HP5.out.bel hMW v
          clear hb5 ho5
          refine hK.out _ _ ?_ (fun hHeld2 => ?_)
          focus
            exact hbel5
          clear hHeld
          have hHeld := hHeld2
          clear hHeld2 hK K
          try simp only [gt6, Act.put]
          refine tkA 6 ?_ rfl ?_ (by assumption) ?_; rotate_left; focus (intro U hU; (try dsimp only at hU); go_simp; try (with_reducible rfl))
          simp only [gt6, Act.put]
          refine wpAnyH_ready (rs := [7]) (by kernel_rfl) (by simp) ?_
          refine (AllReadyH.cons rfl (fun K hK => ?_) AllReadyH.nil)
          simp only [gt3]
          go_simp
          refine hK.out _ _ ?_ (fun hHeld2 => ?_)
          focus
            exact hbel6 _
          clear hHeld
          have hHeld := hHeld2
          clear hHeld2 hK K
          try simp only [gt6, Act.put]
          refine wpAnyH_done (by kernel_rfl) ?_ _
          clear hHeld c6 c63 c6a c65 f65 hbel hbel3 hbel5 hbel6
          go_wp2
          go_roundw
          case rel =>
            refine ⟨c + 1, A5, c5, m ++ [sx], l2, e2, by omega, by go_num, by simp [hmc], HR2.out, HP5.out.set6 _, ?_⟩
            rw [Hid, scells_snoc]
            exact own_setOld HO5.out _ _ (Nat.lt_succ_self M)
          case measure => simp [intOf]; omega
    · obtain rfl : c = n := by omega
      have hge : ¬ (c : Int) < (c : Int) := by omega
      have hxs : xs = m ∧ lx = li ∧ ex = ei := by
        have h1 := hqx.out
        rw [HR.out, Nat.sub_self] at h1
        simpa [rts] using h1
      obtain ⟨rfl, rfl, rfl⟩ := hxs
      have HE := hid (bEnd_any B lx ex wr HP.out.b)
      rw [← hqk.out] at HE
      have HLS := hid (rts_le c ln en)
      rw [← hqx.out] at HLS
      simp only at HLS
      obtain ⟨p0, p1, p2, p3, p4, p5, p6⟩ := seven_cells HP.out.m
      obtain ⟨g0, g1, g2, g3, g4, g5, g6⟩ := seven_cells HP.out.r
      obtain ⟨h0, h1, h2, h3, h4, h5, h6⟩ := seven_frz HP.out.r
      have hRM : W.heap.size ≠ M := by have := HP.out.rb; have := HP.out.bm; omega
      by_cases he : vk = 0
      · subst he
        rw [if_pos rfl] at HPR
        go_wp2_with (go_at_call 93; refine HE.out.mono ?_; rintro x w' ⟨rfl, rfl⟩)
        obtain ⟨r0, r1, r2, r3, r4, r5, r6⟩ := seven_cells (put7_heap HP.out.r (.int .i64 (k : Nat)) (.int .i64 (j : Nat)) (.int .i64 (t : Nat)) (.int .i64 (wk : Nat)) (.int .i64 (s : Nat)) (.int .i64 (p : Nat)) (.slice Ai c ci))
        simp only [put7] at r0 r1 r2 r3 r4 r5 r6
        rw [HPR.out]
        refine bodyPost_ret (v := .tuple #[.agg #[.int .i64 (k : Nat), .int .i64 (j : Nat), .int .i64 (t : Nat), .int .i64 (wk : Nat), .int .i64 (s : Nat), .int .i64 (p : Nat), .slice Ai c ci], .int .i64 0]) (by simp [results, Tryz.results66, go_sem, r0, r1, r2, r3, r4, r5, r6]) rfl ⟨Ai, ci, by simp only [rcc, hmc], ⟨?_, HLS.out.2⟩, put7_below HP.out.bel (Nat.le_refl _) _ _ _ _ _ _ _⟩
        simp only [hmc]
        exact own_mono (put7_own HO.out (by have := HP.out.rb; have := HP.out.bm; omega) _ _ _ _ _ _ _) (by have := HP.out.rb; have := HP.out.bm; omega)
      · rw [if_neg he] at HPR
        have hne : (vk != 0) = true := by simp [he]
        go_wp2_with (go_at_call 93; refine HE.out.mono ?_; rintro x w' ⟨rfl, rfl⟩)
        obtain ⟨r0, r1, r2, r3, r4, r5, r6⟩ := seven_cells (put7_heap HP.out.r (.int .i64 0) (.int .i64 0) (.int .i64 0) (.int .i64 0) (.int .i64 0) (.int .i64 0) (.slice none 0 0))
        simp only [put7] at r0 r1 r2 r3 r4 r5 r6
        rw [HPR.out]
        refine bodyPost_ret (v := .tuple #[.agg #[.int .i64 0, .int .i64 0, .int .i64 0, .int .i64 0, .int .i64 0, .int .i64 0, .slice none 0 0], .int .i64 vk]) (by simp [results, Tryz.results66, go_sem, r0, r1, r2, r3, r4, r5, r6]) rfl ⟨none, 0, rfl, ⟨World.ownsRow_nil _ _ _ _, by simp⟩, put7_below HP.out.bel (Nat.le_refl _) _ _ _ _ _ _ _⟩
end Go.Proofs.YtkepfkfoblocgaaGreat

namespace Go.Proofs.YtkepfkfoblocgaaGreat
open Go.RowKit
set_option linter.unusedVariables false
set_option linter.unusedSimpArgs false

theorem cl_nat {n : Nat} (h : n ≤ 72057594037927935) : cl (n : Int) = n := by unfold cl; omega
/-- A field that is read without an error was put. -/
theorem takeS_ok (hb : Bool) (least most : Int) (l : List UInt8) (e : Int) (h : (takeS hb least most l e).2.2 = 0) :
    e = 0 ∧ l = pt hb ((takeS hb least most l e).1 : Nat) ++ (takeS hb least most l e).2.1 ∧ (((takeS hb least most l e).1 : Nat) : Int) ≤ max most 0 ∧ (if hb then least ≤ (((takeS hb least most l e).1 : Nat) : Int) else (takeS hb least most l e).1 = 0) := by
  cases hb with
  | false =>
    have h' : e = 0 := h
    refine ⟨h', ?_, ?_, ?_⟩
    · simp [takeS, pt]
    · simp [takeS]; omega
    · simp [takeS]
  | true =>
    have hR : takeS true least most l e = if ((rdNum most l e).1 : Int) < least then ((rdNum most l e).1, (rdNum most l e).2.1, rdFail 3 (rdNum most l e).2.2) else rdNum most l e := rfl
    have hlt : ¬ ((rdNum most l e).1 : Int) < least := by
      intro hlt
      rw [hR, if_pos hlt] at h
      simp only [rdFail] at h
      split at h
      · omega
      · contradiction
    rw [if_neg hlt] at hR
    rw [hR] at h ⊢
    have he : e = 0 := by
      rcases Classical.em (e = 0) with he | he
      · exact he
      · rw [rdNum, if_neg he] at h; exact h
    subst he
    have hf : (firstN most l).2.2 = 0 := by
      rcases Classical.em ((firstN most l).2.2 = 0) with hf | hf
      · exact hf
      · rw [rdNum, if_pos rfl, if_neg hf] at h; simp at h; exact h
    obtain ⟨u1, u2, n1, n2⟩ := firstN_used most l hf
    have hn := numB_firstN most l hf
    have e1 : rdNum most l 0 = ((firstN most l).1, l.drop (firstN most l).2.1, (0 : Int)) := by rw [rdNum, if_pos rfl, if_pos hf]
    rw [e1] at hlt ⊢
    refine ⟨rfl, ?_, n2, by simpa using hlt⟩
    simp only [pt, if_true]
    rw [cl_nat n1, hn, List.take_append_drop]
theorem rdText_ok (l : List UInt8) (e : Int) (h : (rdText 200 l e).2.2 = 0) : e = 0 ∧ l = tx (rdText 200 l e).1 ++ (rdText 200 l e).2.1 := by
  have he : e = 0 := by
    rcases Classical.em (e = 0) with he | he
    · exact he
    · rw [rdText, if_neg he] at h; exact h
  subst he
  have hf : (firstN 200 l).2.2 = 0 := by
    rcases Classical.em ((firstN 200 l).2.2 = 0) with hf | hf
    · exact hf
    · rw [rdText, if_pos rfl, if_neg hf] at h; simp at h; exact h
  obtain ⟨u1, u2, n1, n2⟩ := firstN_used 200 l hf
  have hn := numB_firstN 200 l hf
  have hs : ¬ l.length - (firstN 200 l).2.1 < (firstN 200 l).1 := by
    intro hs
    rw [rdText, if_pos rfl, if_pos hf, if_pos hs] at h
    simp at h
  have e1 : rdText 200 l 0 = ((l.drop (firstN 200 l).2.1).take (firstN 200 l).1, l.drop ((firstN 200 l).2.1 + (firstN 200 l).1), (0 : Int)) := by rw [rdText, if_pos rfl, if_pos hf, if_neg hs]
  rw [e1]
  refine ⟨rfl, ?_⟩
  have hlen : ((l.drop (firstN 200 l).2.1).take (firstN 200 l).1).length = (firstN 200 l).1 := by
    rw [List.length_take, List.length_drop]; omega
  simp only [tx]
  rw [hlen, hn, List.append_assoc, ← List.drop_drop, List.take_append_drop, List.take_append_drop]
theorem rts_ok : ∀ (n : Nat) (l : List UInt8) (e : Int), (rts n l e).2.2 = 0 → e = 0 ∧ l = txs (rts n l e).1 ++ (rts n l e).2.1
  | 0, l, e, h => ⟨h, by simp [rts, txs]⟩
  | n + 1, l, e, h => by
    rw [rts_succ] at h ⊢
    obtain ⟨h1, h2⟩ := rts_ok n _ _ h
    obtain ⟨h3, h4⟩ := rdText_ok l e h1
    refine ⟨h3, ?_⟩
    have e1 : ∀ (s : List UInt8) (L : List (List UInt8)), txs (s :: L) = tx s ++ txs L := fun s L => by simp [txs]
    simp only [e1, List.append_assoc]
    rw [← h2]
    exact h4
theorem inS_of {hb : Bool} {lo hi : Int} {n : Nat} (h0 : 0 ≤ hi) (m : (n : Int) ≤ max hi 0) (f : if hb then lo ≤ (n : Int) else n = 0) : inS hb lo hi (n : Int) = true := by
  unfold inS
  cases hb with
  | false =>
    have : n = 0 := by simpa using f
    subst this
    rfl
  | true =>
    have : lo ≤ (n : Int) := by simpa using f
    simp; omega
/-- What is parsed is valid and has those bytes. -/
theorem pr_ok (l : List UInt8) (h : qk l = 0) : chkR (pr l) = true ∧ rb (pr l) = l := by
  have hd : (qx l).2.2 = 0 ∧ (qx l).2.1 = [] := by
    unfold qk rdEnd at h
    split at h
    · rename_i h2
      split at h
      · omega
      · rename_i h3
        exact ⟨h2, List.eq_nil_of_length_eq_zero (by omega)⟩
    · contradiction
  obtain ⟨e7, l7⟩ := rts_ok _ _ _ hd.1
  obtain ⟨hn, hs⟩ := rts_le (qn l).1 (qn l).2.1 (qn l).2.2
  obtain ⟨e6, l6, m6, f6⟩ := takeS_ok _ _ _ _ _ e7
  obtain ⟨e5, l5, m5, f5⟩ := takeS_ok _ _ _ _ _ e6
  obtain ⟨e4, l4, m4, f4⟩ := takeS_ok _ _ _ _ _ e5
  obtain ⟨e3, l3, m3, f3⟩ := takeS_ok _ _ _ _ _ e4
  obtain ⟨e2, l2, m2, f2⟩ := takeS_ok _ _ _ _ _ e3
  obtain ⟨e1, l1, m1, f1⟩ := takeS_ok _ _ _ _ _ e2
  obtain ⟨e0, l0, m0, f0⟩ := takeS_ok _ _ _ _ _ e1
  have hxl : (qx l).1.length = (qn l).1 := hn
  have hxs : ∀ s ∈ (qx l).1, s.length ≤ 200 := hs
  have g0 : (1 : Int) ≤ ((qa l).1 : Nat) := f0
  have g0' : (((qa l).1 : Nat) : Int) ≤ max 4 0 := m0
  have g1 : (1 : Int) ≤ ((qj l).1 : Nat) := f1
  have g1' : (((qj l).1 : Nat) : Int) ≤ max 72057594037927935 0 := m1
  rw [pr, if_pos h]
  refine ⟨?_, ?_⟩
  · unfold chkR
    simp only [Bool.and_eq_true, decide_eq_true_eq]
    refine ⟨⟨⟨⟨⟨⟨⟨⟨?_, g1⟩, by omega⟩, inS_of (by omega) m2 f2⟩, inS_of (by omega) m3 f3⟩, inS_of (by omega) m4 f4⟩, inS_of (by omega) m5 f5⟩, ?_⟩, ?_⟩
    · unfold isK
      simp; omega
    · rw [hxl]
      exact inS_of (by omega) m6 f6
    · unfold shortB
      rw [List.all_eq_true]
      exact fun s hs => by simpa using hxs s hs
  · have q0 : l = pt true ((qa l).1 : Nat) ++ (qa l).2.1 := l0
    have q1 : (qa l).2.1 = pt true ((qj l).1 : Nat) ++ (qj l).2.1 := l1
    have q2 : (qj l).2.1 = pt (hasR (qa l).1 1) ((qt l).1 : Nat) ++ (qt l).2.1 := l2
    have q3 : (qt l).2.1 = pt (hasR (qa l).1 2) ((qw l).1 : Nat) ++ (qw l).2.1 := l3
    have q4 : (qw l).2.1 = pt (hasR (qa l).1 3) ((qs l).1 : Nat) ++ (qs l).2.1 := l4
    have q5 : (qs l).2.1 = pt (hasR (qa l).1 4) ((qe l).1 : Nat) ++ (qe l).2.1 := l5
    have q6 : (qe l).2.1 = pt (hasR (qa l).1 5) ((qn l).1 : Nat) ++ (qn l).2.1 := l6
    have q7 : (qn l).2.1 = txs (qx l).1 ++ (qx l).2.1 := l7
    rw [hd.2, List.append_nil] at q7
    rw [q7] at q6
    rw [q6] at q5
    rw [q5] at q4
    rw [q4] at q3
    rw [q3] at q2
    rw [q2] at q1
    have q : l = pt true ((qa l).1 : Nat) ++ (pt true ((qj l).1 : Nat) ++ (pt (hasR (qa l).1 1) ((qt l).1 : Nat) ++ (pt (hasR (qa l).1 2) ((qw l).1 : Nat) ++ (pt (hasR (qa l).1 3) ((qs l).1 : Nat) ++ (pt (hasR (qa l).1 4) ((qe l).1 : Nat) ++ (pt (hasR (qa l).1 5) ((qn l).1 : Nat) ++ txs (qx l).1)))))) := by rw [← q1]; exact q0
    rw [rb, headB]
    simp only [hxl]
    conv => rhs; rw [q]
    rw [show pt true ((qa l).1 : Nat) = numB (cl ((qa l).1 : Nat)) from rfl, show pt true ((qj l).1 : Nat) = numB (cl ((qj l).1 : Nat)) from rfl]
    simp only [List.append_assoc]
end Go.Proofs.YtkepfkfoblocgaaGreat
