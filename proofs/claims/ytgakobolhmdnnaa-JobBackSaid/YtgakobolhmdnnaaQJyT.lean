/- Bytes of the call's own; a reader whose bytes lie below it; texts that are read: single theorems of Rec*. -/
import Derived.Test.YtgakobolhmdnnaaQJyB
import Derived.Test.YtgakobolhmdnnaaOcP
namespace Go.Proofs.Ytgakobolhmdnnaa
open Go.RowKit
set_option linter.unusedVariables false
set_option linter.unusedSimpArgs false

/-- A text's bytes. -/
def tx (s : List UInt8) : List UInt8 := numB s.length ++ s
def txs (l : List (List UInt8)) : List UInt8 := (l.map tx).flatten
theorem txs_snoc (l : List (List UInt8)) (s : List UInt8) : txs (l ++ [s]) = txs l ++ tx s := by simp [txs]
/-- Bytes of the call's own. -/
def OwnB (w : World) (B : Nat) (A : Option Addr) (c : Nat) (l : List UInt8) : Prop := w.ownsRow B 5 1 (.slice A l.length c) l.length (bcells l)
theorem OwnB.bytes {w : World} {B : Nat} {A : Option Addr} {c : Nat} {l : List UInt8} (h : OwnB w B A c l) : IsBytes w A l.length c l := sl_own h
theorem OwnB.keep {w w' : World} {B : Nat} {A : Option Addr} {c : Nat} {l : List UInt8} (h : OwnB w B A c l) (hb : Below w.heap.size w w') : OwnB w' B A c l := own_keep h hb
theorem ownB_of {w : World} {B n : Nat} {v : Value} {l : List UInt8} (h : w.ownsRow B 5 1 v n (bcells l)) : ∃ A c, v = .slice A l.length c ∧ OwnB w B A c l := by
  obtain ⟨a, c, rfl, hs⟩ := Sl.of_own h
  have hn : n = l.length := by have := hs.1; rw [bcells_length] at this; omega
  subst hn
  exact ⟨a, c, rfl, h⟩
theorem rnum_own (B : Nat) (A : Option Addr) (cap : Nat) (l : List UInt8) (n : Int) (w : World) (h : OwnB w B A cap l) (hB : B ≤ w.heap.size) (hl : l.length ≤ 100000) :
    Calls Try.prog 67 #[.slice A l.length cap, .int .i64 n] w fun e w' => ∃ A' c', e = .returned (.slice A' (l ++ numB (cl n)).length c') ∧ OwnB w' B A' c' (l ++ numB (cl n)) ∧ Below w.heap.size w w' := by
  refine (num_any A l.length cap l n w h.bytes (by omega)).mono ?_
  rintro e w' ⟨v, rfl, ho, hb⟩
  obtain ⟨A', c', rfl, h2⟩ := ownB_of ho
  exact ⟨A', c', rfl, own_mono h2 hB, hb⟩
theorem rtext_own (B : Nat) (A : Option Addr) (cap : Nat) (l s : List UInt8) (w : World) (h : OwnB w B A cap l) (hB : B ≤ w.heap.size) (hl : l.length ≤ 100000) (hs : s.length ≤ 100000) :
    Calls Try.prog 68 #[.slice A l.length cap, .string (str s)] w fun e w' => ∃ A' c', e = .returned (.slice A' (l ++ tx s).length c') ∧ OwnB w' B A' c' (l ++ tx s) ∧ Below w.heap.size w w' := by
  refine (text_any A l.length cap l (str s) w h.bytes hl (by rw [str_size]; exact hs)).mono ?_
  rintro e w' ⟨v, rfl, ho, hb⟩
  have e1 : l ++ numB (str s).size ++ (str s).data.toList = l ++ tx s := by rw [str_size, tx, List.append_assoc]; rfl
  rw [e1] at ho
  obtain ⟨A', c', rfl, h2⟩ := ownB_of ho
  exact ⟨A', c', rfl, own_mono h2 hB, hb⟩
theorem tx_len (s : List UInt8) (h : s.length ≤ 200) : (tx s).length ≤ 208 := by
  have := (numB_length s.length (by omega)).2
  rw [tx, List.length_append]; omega
theorem txs_len : ∀ (l : List (List UInt8)), (∀ s ∈ l, s.length ≤ 200) → (txs l).length ≤ 208 * l.length
  | [], _ => by simp [txs]
  | s :: l, h => by
    have h1 := txs_len l (fun x hx => h x (List.mem_cons_of_mem _ hx))
    have h2 := tx_len s (h s (List.mem_cons_self ..))
    have e : txs (s :: l) = tx s ++ txs l := by simp [txs]
    rw [e, List.length_append, List.length_cons]; omega
theorem convS {w : World} {a : Option Addr} {n cap : Nat} {l : List UInt8} (h : IsBytes w a n cap l) : (convert 41 9 (.slice a n cap)).run Try.prog w = .ok (.string (str l)) w :=
  conv_str (P := Try.prog) (src := 41) (dst := 9) Try.underlying41 Try.underlying5 Try.underlying9 h
theorem own_blk_lt {w : World} {base e s n : Nat} {v : Value} {xs : List Value} (h : w.ownsRow base e s v n xs) : ∀ g, v.ownBlock = some g → g < w.heap.size := by
  intro g hg
  rcases h.2 with ⟨rfl, _⟩ | ⟨g', cap, cur, rfl, _, hh, _⟩
  · simp [Value.ownBlock] at hg
  · have : g' = g := by simpa [Value.ownBlock] using hg
    subst this
    exact lt_of_block hh
/-- A reader whose bytes lie in a block below its own. -/
def RdrB (w : World) (B : Nat) (l : List UInt8) (e : Int) : Prop :=
  ∃ a cap, w.heap[B]? = some (.cells #[.slice a l.length cap, .int .i64 e] 159 (0, 0)) ∧ IsBytes w a l.length cap l ∧ ∀ x, a = some x → x.block < B
theorem RdrB.lt {w : World} {B : Nat} {l : List UInt8} {e : Int} (h : RdrB w B l e) : B < w.heap.size := by
  obtain ⟨_, _, h, _⟩ := h
  exact lt_of_block h
/-- What keeps all up to the reader keeps the reader. -/
theorem RdrB.keep {w w' : World} {B : Nat} {l : List UInt8} {e : Int} (h : RdrB w B l e) (hb : Below (B + 1) w w') : RdrB w' B l e := by
  obtain ⟨a, cap, h1, h2, h3⟩ := h
  refine ⟨a, cap, (hb.block B (Nat.lt_succ_self B)).trans h1, ⟨h2.1, h2.2.1, h2.2.2.1, fun h0 => ?_⟩, h3⟩
  obtain ⟨b, off, rfl, hc⟩ := h2.2.2.2 h0
  have hlt := h3 _ rfl
  exact ⟨b, off, rfl, fun i hi => (hb.cell (show b < B + 1 by simp only at hlt; omega)).trans (hc i hi)⟩
theorem RdrB.below {w w' : World} {B : Nat} {l : List UInt8} {e : Int} (h : RdrB w B l e) (hb : Below w.heap.size w w') : RdrB w' B l e := h.keep (hb.mono h.lt)
theorem RdrB.setErr {w : World} {B : Nat} {l : List UInt8} {e : Int} (h : RdrB w B l e) (e' : Int) : RdrB (w.setCell ⟨B, 1, none⟩ (.int .i64 e')) B l e' := by
  obtain ⟨a, cap, h1, h2, h3⟩ := h
  exact ⟨a, cap, heap_setCell_same _ B 1 _ _ _ h1, isBytes_only h2 ((Only.refl B w).set 1 _) h1 (fun x hx => by cases hx), h3⟩
theorem RdrB.setRest {w : World} {B : Nat} {l l' : List UInt8} {e : Int} {a : Option Addr} {cap : Nat} (h : RdrB w B l e) (h2 : IsBytes w a l'.length cap l') (h3 : ∀ x, a = some x → x.block < B) : RdrB (w.setCell ⟨B, 0, none⟩ (.slice a l'.length cap)) B l' e := by
  obtain ⟨a', cap', h1, _⟩ := h
  exact ⟨a, cap, heap_setCell_same _ B 0 _ _ _ h1, isBytes_only h2 ((Only.refl B w).set 0 _) h1 (fun x hx => by cases hx), h3⟩
theorem RdrB.rest1 {w : World} {B : Nat} {l : List UInt8} {e : Int} {b off cap u : Nat} (h : RdrB w B l e) (hs : IsBytes w (some ⟨b, off, none⟩) l.length cap l) (h3 : b < B) (hu : u ≤ l.length) : RdrB (w.setCell ⟨B, 0, none⟩ (.slice (some ⟨b, off + u, none⟩) (l.length - u) (cap - u))) B (l.drop u) e := by
  have := h.setRest (isBytes_drop hs u hu rfl) (fun x hx => by cases hx; exact h3)
  rw [List.length_drop] at this
  exact this
theorem RdrB.rest0 {w : World} {B : Nat} {l : List UInt8} {e : Int} {a : Option Addr} {u cap : Nat} (h : RdrB w B l e) (hs : IsBytes w a l.length cap l) (h3 : ∀ x, a = some x → x.block < B) (hu : u ≤ l.length) (hc : l.length ≤ u) : RdrB (w.setCell ⟨B, 0, none⟩ (.slice a (l.length - u) 0)) B (l.drop u) e := by
  obtain rfl : u = l.length := by omega
  rw [List.drop_length, Nat.sub_self]
  exact h.setRest (l' := []) (Sl.nil _ _ _ _ (Nat.zero_le _)) h3
set_option maxHeartbeats 1000000 in
theorem bnew_any (a : Option Addr) (len cap : Nat) (l : List UInt8) (W : World) (hb : IsBytes W a len cap l) (hl : l.length ≤ 100000) :
    Calls Try.prog 57 #[.slice a len cap] W fun e w' => ∃ B, e = .returned (.pointer (some ⟨B, 0, none⟩)) ∧ W.heap.size ≤ B ∧ RdrB w' B l 0 ∧ Below W.heap.size W w' := by
  obtain ⟨rfl, hlc, hcm⟩ := hb.len
  have HB := hid hb
  clear hb
  go_enter Try.func57, Try.ntmps57
  go_wp2_with (at_builtin; refine wpList_append_sl (W := W) rfl (.const (.slice none 0 0)) (.tmp 3) 41 rfl W.heap.size 5 Try.underlying41 info_u8 rfl (by omega) rfl (World.ownsRow_nil _ _ _ _) rfl HB.out (bcells_one _) (by unfold maxLen; omega) (by omega) (Nat.le_refl _) (Below.refl _ _) ?_)
  intro v' w' h2 h3 h4
  have hlt9 := own_blk_lt h2
  obtain ⟨a2, c2, rfl, hs⟩ := own_bytes h2
  have HL9 := hid (show ∀ x, a2 = some x → x.block < w'.heap.size from fun x hx => hlt9 x.block (by subst hx; rfl))
  clear hlt9
  have HS := hid hs
  have H3 := hid h3
  clear h2 h3 h4 hs
  go_wp2
  go_ret
  exact ⟨_, rfl, H3.out.size, ⟨a2, c2, heap_alloc_new _ _, HS.out.below ((Below.refl _ _).alloc (Nat.le_refl _) _), HL9.out⟩, H3.out.alloc H3.out.size _⟩
set_option maxRecDepth 20000 in
set_option maxHeartbeats 1000000 in
theorem bNum_any (B : Nat) (l : List UInt8) (e most : Int) (W : World) (h : RdrB W B l e) :
    Calls Try.prog 58 #[.pointer (some ⟨B, 0, none⟩), .int .i64 most] W fun x w' => x = .returned (.int .i64 ((rdNum most l e).1 : Nat)) ∧ RdrB w' B (rdNum most l e).2.1 (rdNum most l e).2.2 ∧ Only B W w' := by
  have H := hid h
  obtain ⟨a, cap, hB, hs, hloc⟩ := h
  have HLOC := hid hloc
  clear hloc
  have HS := hid hs
  obtain ⟨c0, c1, f0, f1⟩ := two_cells hB
  clear hB hs
  by_cases he : e = 0
  · subst he
    have HF := hid (fun w (hw : W = w) => first_any a l.length cap l most w (hw ▸ HS.out))
    have HU := hid (firstN_used most l)
    have hx := firstN_err most l
    have HR : Hid (rdNum most l 0 = if (firstN most l).2.2 = 0 then ((firstN most l).1, l.drop (firstN most l).2.1, (0 : Int)) else (0, l, (((firstN most l).2.2 : Nat) : Int))) := hid rfl
    generalize firstN most l = t at *
    obtain ⟨n, u, x⟩ := t
    simp only [trip] at HF HU hx HR
    by_cases h0 : x = 0
    · subst h0
      rw [if_pos rfl] at HR
      obtain ⟨u1, u2, n1, n2⟩ := HU.out rfl
      have hcap := HS.out.len
      have hcap1 : l.length ≤ cap := hcap.2.1
      have hcap2 : cap ≤ 9223372036854775807 := by have := hcap.2.2; unfold maxLen at this; omega
      have hu1 : (u : Int) ≤ (l.length : Int) := by omega
      obtain ⟨b, off, rfl, _⟩ := HS.out.2.2.2 (by rw [bcells_length]; omega)
      clear HU n1 n2 hcap
      go_enter Try.func58, Try.ntmps58
      go_wp2_with (go_at_call 107; refine (HF.out _ rfl).mono ?_; rintro e w' ⟨rfl, rfl⟩)
      all_goals go_ret
      all_goals rw [HR.out]
      all_goals refine ⟨rfl, ?_, (Only.refl B W).set 0 _⟩
      all_goals first
        | exact H.out.rest1 HS.out (HLOC.out _ rfl) u2
        | exact H.out.rest0 HS.out HLOC.out u2 (by omega)
    · rw [if_neg h0] at HR
      have hne : (((x : Nat) : Int) != 0) = true := by simp; omega
      clear HU
      go_enter Try.func58, Try.ntmps58
      go_wp2_with (go_at_call 107; refine (HF.out _ rfl).mono ?_; rintro e w' ⟨rfl, rfl⟩)
      go_ret
      rw [HR.out]
      exact ⟨rfl, H.out.setErr _, (Only.refl B W).set 1 _⟩
  · have hne : (e != 0) = true := by simp [he]
    have HR : Hid (rdNum most l e = (0, l, e)) := hid (by rw [rdNum, if_neg he])
    clear he
    go_enter Try.func58, Try.ntmps58
    go_wp2
    go_ret
    rw [HR.out]
    exact ⟨rfl, H.out, Only.refl B W⟩
set_option maxRecDepth 20000 in
set_option maxHeartbeats 2000000 in
theorem bText_any (B : Nat) (l : List UInt8) (e most : Int) (W : World) (h : RdrB W B l e) :
    Calls Try.prog 60 #[.pointer (some ⟨B, 0, none⟩), .int .i64 most] W fun x w' => x = .returned (.string ⟨(rdText most l e).1.toArray⟩) ∧ RdrB w' B (rdText most l e).2.1 (rdText most l e).2.2 ∧ Only B W w' := by
  have H := hid h
  obtain ⟨a, cap, hB, hs, hloc⟩ := h
  have HLOC := hid hloc
  clear hloc
  have HS := hid hs
  obtain ⟨c0, c1, f0, f1⟩ := two_cells hB
  clear hB hs
  by_cases he : e = 0
  · subst he
    have HF := hid (fun w (hw : W = w) => first_any a l.length cap l most w (hw ▸ HS.out))
    have HU := hid (firstN_used most l)
    have hx := firstN_err most l
    have HR : Hid (rdText most l 0 = if (firstN most l).2.2 = 0 then (if l.length - (firstN most l).2.1 < (firstN most l).1 then ([], l, (2 : Int)) else ((l.drop (firstN most l).2.1).take (firstN most l).1, l.drop ((firstN most l).2.1 + (firstN most l).1), (0 : Int))) else ([], l, (((firstN most l).2.2 : Nat) : Int))) := hid rfl
    generalize firstN most l = t at *
    obtain ⟨n, u, x⟩ := t
    simp only [trip] at HF HU hx HR
    by_cases h0 : x = 0
    · subst h0
      rw [if_pos rfl] at HR
      obtain ⟨u1, u2, n1, n2⟩ := HU.out rfl
      have hcap := HS.out.len
      have hcap1 : l.length ≤ cap := hcap.2.1
      have hcap2 : cap ≤ 9223372036854775807 := by have := hcap.2.2; unfold maxLen at this; omega
      have hu1 : (u : Int) ≤ (l.length : Int) := by omega
      obtain ⟨b, off, rfl, _⟩ := HS.out.2.2.2 (by rw [bcells_length]; omega)
      clear HU n2 hcap
      by_cases hsh : l.length - u < n
      · rw [if_pos hsh] at HR
        have hd : decide ((l.length : Int) - (u : Int) < (n : Int)) = true := by simp; omega
        have hd2 : (l.length : Int) - (u : Int) < (n : Int) := by omega
        clear hsh n1
        go_enter Try.func60, Try.ntmps60
        go_wp2_with (go_at_call 107; refine (HF.out _ rfl).mono ?_; rintro e w' ⟨rfl, rfl⟩)
        go_ret
        rw [HR.out]
        exact ⟨rfl, H.out.setErr _, (Only.refl B W).set 1 _⟩
      · rw [if_neg hsh] at HR
        have hd : decide ((l.length : Int) - (u : Int) < (n : Int)) = false := by simp; omega
        have hd2 : (n : Int) ≤ (l.length : Int) - (u : Int) := by omega
        have hun : u + n ≤ l.length := by omega
        have hcv := conv_str (P := Try.prog) (src := 41) (dst := 9) Try.underlying41 Try.underlying5 Try.underlying9 (isBytes_mid HS.out u n hun)
        clear hsh n1
        by_cases hcu : cap = u
        · obtain rfl : n = 0 := by omega
          have hcv0 := conv_str (P := Try.prog) (src := 41) (dst := 9) Try.underlying41 Try.underlying5 Try.underlying9 (isBytes_nil W (some ⟨b, off, none⟩) 0 (Nat.zero_le _))
          have HCU := hid hcu
          clear hcv
          subst hcu
          clear hun hd2
          go_enter Try.func60, Try.ntmps60
          go_wp2_with (go_at_call 107; refine (HF.out _ rfl).mono ?_; rintro e w' ⟨rfl, rfl⟩)
          all_goals go_ret
          all_goals rw [HR.out]
          all_goals refine ⟨by simp, ?_, (Only.refl B W).set 0 _⟩
          all_goals simp only [Nat.add_zero]
          all_goals first
            | exact H.out.rest1 HS.out (HLOC.out _ rfl) u2
            | (have hz := H.out.rest0 HS.out HLOC.out u2 (by omega); rw [show l.length - cap = 0 by omega] at hz; exact hz)
        · have hcu2 : ¬ (u = cap) := fun h => hcu h.symm
          go_enter Try.func60, Try.ntmps60
          go_wp2_with (go_at_call 107; refine (HF.out _ rfl).mono ?_; rintro e w' ⟨rfl, rfl⟩)
          all_goals go_ret
          all_goals rw [HR.out]
          all_goals refine ⟨rfl, ?_, (Only.refl B W).set 0 _⟩
          all_goals first
            | exact H.out.rest1 HS.out (HLOC.out _ rfl) hun
            | exact H.out.rest0 HS.out HLOC.out hun (by omega)
    · rw [if_neg h0] at HR
      have hne : (((x : Nat) : Int) != 0) = true := by simp; omega
      have hne2 : (((x : Nat) : Int) == 0) = false := by simp; omega
      clear HU
      go_enter Try.func60, Try.ntmps60
      go_wp2_with (go_at_call 107; refine (HF.out _ rfl).mono ?_; rintro e w' ⟨rfl, rfl⟩)
      go_ret
      rw [HR.out]
      exact ⟨rfl, H.out.setErr _, (Only.refl B W).set 1 _⟩
  · have hne : (e != 0) = true := by simp [he]
    have HR : Hid (rdText most l e = ([], l, e)) := hid (by rw [rdText, if_neg he])
    clear he
    go_enter Try.func60, Try.ntmps60
    go_wp2
    go_ret
    rw [HR.out]
    exact ⟨rfl, H.out, Only.refl B W⟩
theorem bErr_any (B : Nat) (l : List UInt8) (e : Int) (W : World) (h : RdrB W B l e) :
    Calls Try.prog 108 #[.pointer (some ⟨B, 0, none⟩)] W fun x w' => x = .returned (.int .i64 e) ∧ W = w' := by
  obtain ⟨a, cap, hB, hs, hloc⟩ := h
  have HLOC := hid hloc
  clear hloc
  obtain ⟨c0, c1, f0, f1⟩ := two_cells hB
  clear hB hs
  go_enter Try.func108, Try.ntmps108
  go_wp2
  go_ret
  exact ⟨rfl, rfl⟩
theorem bFail_any (B : Nat) (l : List UInt8) (e x : Int) (W : World) (h : RdrB W B l e) :
    Calls Try.prog 59 #[.pointer (some ⟨B, 0, none⟩), .int .i64 x] W fun y w' => (∃ v, y = .returned v) ∧ RdrB w' B l (rdFail x e) ∧ Only B W w' := by
  have H := hid h
  obtain ⟨a, cap, hB, hs, hloc⟩ := h
  have HLOC := hid hloc
  clear hloc
  obtain ⟨c0, c1, f0, f1⟩ := two_cells hB
  clear hB hs
  by_cases he : e = 0
  · subst he
    go_enter Try.func59, Try.ntmps59
    go_wp2
    go_end0
    exact ⟨⟨_, rfl⟩, by rw [rdFail, if_pos rfl]; exact H.out.setErr x, (Only.refl B W).set 1 _⟩
  · have hne : (e == 0) = false := by simp [he]
    have HR : Hid (rdFail x e = e) := hid (by rw [rdFail, if_neg he])
    clear he
    go_enter Try.func59, Try.ntmps59
    go_wp2
    go_end0
    exact ⟨⟨_, rfl⟩, by rw [HR.out]; exact H.out, Only.refl B W⟩
theorem bEnd_any (B : Nat) (l : List UInt8) (e : Int) (W : World) (h : RdrB W B l e) :
    Calls Try.prog 61 #[.pointer (some ⟨B, 0, none⟩)] W fun x w' => x = .returned (.int .i64 (rdEnd l e)) ∧ W = w' := by
  have HE := hid (fun w (hw : W = w) => bErr_any B l e w (hw ▸ h))
  obtain ⟨a, cap, hB, hs, hloc⟩ := h
  have HLOC := hid hloc
  clear hloc
  obtain ⟨c0, c1, f0, f1⟩ := two_cells hB
  clear hB hs
  by_cases he : e = 0
  · subst he
    by_cases hl : 0 < l.length
    · have hl' : (0 : Int) < l.length := by omega
      have hd : decide (0 < l.length) = true := by simp; omega
      have HR : Hid (rdEnd l 0 = 3) := hid (by rw [rdEnd, if_pos rfl, if_pos hl])
      clear hl
      go_enter Try.func61, Try.ntmps61
      go_wp2_with (go_at_call 108; refine (HE.out _ rfl).mono ?_; rintro e w' ⟨rfl, rfl⟩)
      go_ret
      exact ⟨by rw [HR.out]; rfl, rfl⟩
    · have hl' : l.length = 0 := by omega
      have HR : Hid (rdEnd l 0 = 0) := hid (by rw [rdEnd, if_pos rfl, if_neg hl])
      rw [hl'] at c0
      clear hl hl'
      go_enter Try.func61, Try.ntmps61
      go_wp2_with (go_at_call 108; refine (HE.out _ rfl).mono ?_; rintro e w' ⟨rfl, rfl⟩)
      go_ret
      exact ⟨by rw [HR.out]; rfl, rfl⟩
  · have hne : (e != 0) = true := by simp [he]
    have HR : Hid (rdEnd l e = e) := hid (by rw [rdEnd, if_neg he])
    clear he
    go_enter Try.func61, Try.ntmps61
    go_wp2_with (go_at_call 108; refine (HE.out _ rfl).mono ?_; rintro e w' ⟨rfl, rfl⟩)
    go_ret
    exact ⟨by rw [HR.out]; rfl, rfl⟩
/-- n texts that are read. -/
def rts : Nat → List UInt8 → Int → List (List UInt8) × List UInt8 × Int
  | 0, l, e => ([], l, e)
  | n + 1, l, e => ((rdText 200 l e).1 :: (rts n (rdText 200 l e).2.1 (rdText 200 l e).2.2).1, (rts n (rdText 200 l e).2.1 (rdText 200 l e).2.2).2)
theorem rts_succ (n : Nat) (l : List UInt8) (e : Int) : rts (n + 1) l e = ((rdText 200 l e).1 :: (rts n (rdText 200 l e).2.1 (rdText 200 l e).2.2).1, (rts n (rdText 200 l e).2.1 (rdText 200 l e).2.2).2) := rfl
theorem rdText_le (l : List UInt8) (e : Int) : (rdText 200 l e).1.length ≤ 200 := by
  unfold rdText
  split
  · split
    · rename_i h0
      obtain ⟨u1, u2, n1, n2⟩ := firstN_used 200 l h0
      split
      · simp
      · simp only [List.length_take]
        omega
    · simp
  · simp
theorem rts_step {n c : Nat} {l0 l : List UInt8} {e0 e : Int} {m : List (List UInt8)} (hc : c < n) (h : rts n l0 e0 = (m ++ (rts (n - c) l e).1, (rts (n - c) l e).2)) :
    rts n l0 e0 = ((m ++ [(rdText 200 l e).1]) ++ (rts (n - (c + 1)) (rdText 200 l e).2.1 (rdText 200 l e).2.2).1, (rts (n - (c + 1)) (rdText 200 l e).2.1 (rdText 200 l e).2.2).2) := by
  obtain ⟨d, hd⟩ : ∃ d, n - c = d + 1 := ⟨n - c - 1, by omega⟩
  have hd2 : n - (c + 1) = d := by omega
  rw [h, hd, hd2, rts_succ]
  simp only [List.append_assoc, List.singleton_append]
theorem rts_le : ∀ (n : Nat) (l : List UInt8) (e : Int), (rts n l e).1.length = n ∧ ∀ s ∈ (rts n l e).1, s.length ≤ 200
  | 0, l, e => ⟨rfl, by simp [rts]⟩
  | n + 1, l, e => by
    obtain ⟨h1, h2⟩ := rts_le n (rdText 200 l e).2.1 (rdText 200 l e).2.2
    rw [rts_succ]
    refine ⟨by simp [h1], fun s hs => ?_⟩
    simp only [List.mem_cons] at hs
    rcases hs with rfl | hs
    · exact rdText_le l e
    · exact h2 s hs
theorem own_only {w w' : World} {base e s n B : Nat} {v : Value} {xs : List Value} (h : w.ownsRow base e s v n xs) (ho : Only B w w') (hB : B < base) : w'.ownsRow base e s v n xs :=
  own_block h (fun g o hg h1 => ho.block h1 (by omega))
theorem rdNum_short9 (most : Int) (l : List UInt8) (e : Int) : (rdNum most l e).2.1.length ≤ l.length := by
  unfold rdNum
  split
  · split
    · simp only [List.length_drop]; omega
    · exact Nat.le_refl _
  · exact Nat.le_refl _
theorem rdText_short (most : Int) (l : List UInt8) (e : Int) : (rdText most l e).2.1.length ≤ l.length := by
  unfold rdText
  split
  · split
    · split
      · exact Nat.le_refl _
      · simp only [List.length_drop]; omega
    · exact Nat.le_refl _
  · exact Nat.le_refl _
end Go.Proofs.Ytgakobolhmdnnaa
