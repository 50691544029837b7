/- octet.Reader, as contracts. -/
import Derived.Test.YtkepfkfoblocgaaOctF
import Derived.Test.YtkepfkfoblocgaaOnly
import Derived.Deep.Cut
import Derived.Outline
namespace Go.Proofs.Ytkepfkfoblocgaa
open Go.RowKit
set_option linter.unusedVariables false
set_option linter.unusedSimpArgs false

/-- A slice that reads as bytes does not lie in a block of two cells that holds a slice and an int. -/
theorem isBytes_apart {w : World} {b off n cap B T : Nat} {l : List UInt8} {v : Value} {e : Int} (h : IsBytes w (some ⟨b, off, none⟩) n cap l) (h0 : 0 < l.length) (hB : w.heap[B]? = some (.cells #[v, .int .i64 e] T (0, 0))) (hv : ∀ x, v ≠ .int .u8 x) : b ≠ B := by
  rintro rfl
  obtain ⟨b', off', ha, hc⟩ := h.at 0 h0
  cases ha
  rw [Nat.add_zero, cell_of_row w b off _ T (0, 0) hB] at hc
  match off, hc with
  | 0, hc => simp at hc; exact hv _ hc
  | 1, hc => simp at hc
  | n + 2, hc => simp at hc
theorem isBytes_only {w w' : World} {a : Option Addr} {n cap B T : Nat} {l : List UInt8} {v : Value} {e : Int} (h : IsBytes w a n cap l) (ho : Only B w w') (hB : w.heap[B]? = some (.cells #[v, .int .i64 e] T (0, 0))) (hv : ∀ x, v ≠ .int .u8 x) : IsBytes w' a n cap l := by
  refine ⟨h.1, h.2.1, h.2.2.1, fun h0 => ?_⟩
  obtain ⟨b, off, rfl, hc⟩ := h.2.2.2 h0
  have hne := isBytes_apart h (by simpa [bcells] using h0) hB hv
  refine ⟨b, off, rfl, fun i hi => ?_⟩
  have h1 := hc i hi
  rw [List.getElem?_eq_getElem hi] at h1
  rw [World.cell?_of_block (ho.keep b hne (lt_of_cell h1)), hc i hi]
theorem isBytes_drop {w : World} {a : Option Addr} {cap : Nat} {l : List UInt8} (h : IsBytes w a l.length cap l) (u : Nat) (hu : u ≤ l.length) {b off : Nat} (ha : a = some ⟨b, off, none⟩) : IsBytes w (some ⟨b, off + u, none⟩) (l.drop u).length (cap - u) (l.drop u) := by
  subst ha
  have := isBytes_mid h u (l.length - u) (by omega)
  rw [List.take_of_length_le (by simp)] at this
  rw [List.length_drop]
  exact this

/-- Block B is a reader: what is left, and its error. -/
def RdrAt (w : World) (B : Nat) (l : List UInt8) (e : Int) : Prop :=
  ∃ a cap, w.heap[B]? = some (.cells #[.slice a l.length cap, .int .i64 e] 152 (0, 0)) ∧ IsBytes w a l.length cap l
theorem RdrAt.only {w w' : World} {B C : Nat} {l : List UInt8} {e : Int} (h : RdrAt w B l e) (ho : Only C w w') (hne : B ≠ C) (hC : ∃ v x T, w.heap[C]? = some (.cells #[v, .int .i64 x] T (0, 0)) ∧ ∀ x, v ≠ .int .u8 x) : RdrAt w' B l e := by
  obtain ⟨a, cap, h1, h2⟩ := h
  obtain ⟨v, x, T, h3, h4⟩ := hC
  exact ⟨a, cap, ho.block h1 hne, isBytes_only h2 ho h3 h4⟩
theorem RdrAt.below {w w' : World} {B : Nat} {l : List UInt8} {e : Int} (h : RdrAt w B l e) (hb : Below w.heap.size w w') : RdrAt w' B l e := by
  obtain ⟨a, cap, h1, h2⟩ := h
  exact ⟨a, cap, keep0 h1 hb, h2.below hb⟩
theorem RdrAt.two {w : World} {B : Nat} {l : List UInt8} {e : Int} (h : RdrAt w B l e) : ∃ v x T, w.heap[B]? = some (.cells #[v, .int .i64 x] T (0, 0)) ∧ ∀ x, v ≠ .int .u8 x := by
  obtain ⟨a, cap, h1, h2⟩ := h
  exact ⟨_, _, _, h1, fun x hx => by cases hx⟩
theorem RdrAt.setErr {w : World} {B : Nat} {l : List UInt8} {e : Int} (h : RdrAt w B l e) (e' : Int) : RdrAt (w.setCell ⟨B, 1, none⟩ (.int .i64 e')) B l e' := by
  obtain ⟨a, cap, h1, h2⟩ := h
  exact ⟨a, cap, heap_setCell_same _ B 1 _ _ _ h1, isBytes_only h2 ((Only.refl B w).set 1 _) h1 (fun x hx => by cases hx)⟩
theorem RdrAt.setRest {w : World} {B : Nat} {l l' : List UInt8} {e : Int} {a : Option Addr} {cap : Nat} (h : RdrAt w B l e) (h2 : IsBytes w a l'.length cap l') : RdrAt (w.setCell ⟨B, 0, none⟩ (.slice a l'.length cap)) B l' e := by
  obtain ⟨a', cap', h1, _⟩ := h
  exact ⟨a, cap, heap_setCell_same _ B 0 _ _ _ h1, isBytes_only h2 ((Only.refl B w).set 0 _) h1 (fun x hx => by cases hx)⟩

theorem RdrAt.rest1 {w : World} {B : Nat} {l : List UInt8} {e : Int} {b off cap u : Nat} (h : RdrAt w B l e) (hs : IsBytes w (some ⟨b, off, none⟩) l.length cap l) (hu : u ≤ l.length) : RdrAt (w.setCell ⟨B, 0, none⟩ (.slice (some ⟨b, off + u, none⟩) (l.length - u) (cap - u))) B (l.drop u) e := by
  have := h.setRest (isBytes_drop hs u hu rfl)
  rw [List.length_drop] at this
  exact this
theorem RdrAt.rest0 {w : World} {B : Nat} {l : List UInt8} {e : Int} {a : Option Addr} {u cap : Nat} (h : RdrAt w B l e) (hs : IsBytes w a l.length cap l) (hu : u ≤ l.length) (hc : l.length ≤ u) : RdrAt (w.setCell ⟨B, 0, none⟩ (.slice a (l.length - u) 0)) B (l.drop u) e := by
  obtain rfl : u = l.length := by omega
  rw [List.drop_length, Nat.sub_self]
  exact h.setRest (l' := []) (Sl.nil _ _ _ _ (Nat.zero_le _))

theorem own_bytes {w : World} {base e n : Nat} {v : Value} {l : List UInt8} (h : w.ownsRow base e 1 v n (bcells l)) : ∃ a cap, v = .slice a l.length cap ∧ IsBytes w a l.length cap l := by
  obtain ⟨a, c, rfl, hs⟩ := Sl.of_own h
  have hn : n = l.length := by have := hs.1; rw [bcells_length] at this; omega
  subst hn
  exact ⟨a, c, rfl, hs⟩

set_option maxHeartbeats 1000000 in
theorem new_any (a : Option Addr) (len cap : Nat) (l : List UInt8) (W : World) (hb : IsBytes W a len cap l) (hl : l.length ≤ 100000) :
    Calls Try.prog 98 #[.slice a len cap] W fun e w' => ∃ B, e = .returned (.pointer (some ⟨B, 0, none⟩)) ∧ W.heap.size ≤ B ∧ RdrAt w' B l 0 ∧ Below W.heap.size W w' := by
  obtain ⟨rfl, hlc, hcm⟩ := hb.len
  have HB := hid hb
  clear hb
  go_enter Try.func98, Try.ntmps98
  go_wp2_with (at_builtin; refine wpList_append_sl (W := W) rfl (.const (.slice none 0 0)) (.tmp 3) 24 rfl W.heap.size 5 Try.underlying24 info_u8 rfl (by omega) rfl (World.ownsRow_nil _ _ _ _) rfl HB.out (bcells_one _) (by unfold maxLen; omega) (by omega) (Nat.le_refl _) (Below.refl _ _) ?_)
  intro v' w' h2 h3 h4
  obtain ⟨a2, c2, rfl, hs⟩ := own_bytes h2
  have HS := hid hs
  have H3 := hid h3
  clear h2 h3 h4 hs
  go_wp2
  go_ret
  exact ⟨_, rfl, H3.out.size, ⟨a2, c2, heap_alloc_new _ _, HS.out.below ((Below.refl _ _).alloc (Nat.le_refl _) _)⟩, H3.out.alloc H3.out.size _⟩

theorem firstN_cons (most : Int) (c : UInt8) (r : List UInt8) : firstN most (c :: r) = if c.toNat = 255 then (0, 0, 3) else if c.toNat < 248 then chkN most c.toNat 1
    else if r.length < c.toNat - 247 then (0, 0, 2)
    else if joinN 0 (r.take (c.toNat - 247)) < 248 ∨ wd (joinN 0 (r.take (c.toNat - 247))) ≠ c.toNat - 247 then (0, 0, 3)
    else chkN most (joinN 0 (r.take (c.toNat - 247))) (1 + (c.toNat - 247)) := rfl
theorem firstN_used (most : Int) (l : List UInt8) (h : (firstN most l).2.2 = 0) : 1 ≤ (firstN most l).2.1 ∧ (firstN most l).2.1 ≤ l.length ∧ (firstN most l).1 ≤ 72057594037927935 ∧ (((firstN most l).1 : Nat) : Int) ≤ max most 0 := by
  cases l with
  | nil => simp [firstN] at h
  | cons c r =>
    have hc := c.toNat_lt
    have chk : ∀ n u, (chkN most n u).2.2 = 0 → chkN most n u = (n, u, 0) ∧ (n : Int) ≤ max most 0 := by
      intro n u h
      unfold chkN at *
      by_cases hm : max most 0 < (n : Int)
      · rw [if_pos hm] at h; simp at h
      · rw [if_neg hm]; exact ⟨rfl, by omega⟩
    rw [firstN_cons] at h ⊢
    by_cases h1 : c.toNat = 255
    · rw [if_pos h1] at h; simp at h
    rw [if_neg h1] at h ⊢
    by_cases h2 : c.toNat < 248
    · rw [if_pos h2] at h ⊢
      obtain ⟨e1, e2⟩ := chk _ _ h
      rw [e1]
      simp only [List.length_cons]
      refine ⟨by omega, by omega, by omega, e2⟩
    rw [if_neg h2] at h ⊢
    by_cases h3 : r.length < c.toNat - 247
    · rw [if_pos h3] at h; simp at h
    rw [if_neg h3] at h ⊢
    by_cases h4 : joinN 0 (r.take (c.toNat - 247)) < 248 ∨ wd (joinN 0 (r.take (c.toNat - 247))) ≠ c.toNat - 247
    · rw [if_pos h4] at h; simp at h
    rw [if_neg h4] at h ⊢
    obtain ⟨e1, e2⟩ := chk _ _ h
    rw [e1]
    have hj : joinN 0 (r.take (c.toNat - 247)) < 72057594037927936 := joinN_small (by simp; omega)
    simp only [List.length_cons]
    refine ⟨by omega, by omega, by omega, e2⟩
theorem firstN_err (most : Int) (l : List UInt8) : (firstN most l).2.2 ≤ 4 := by
  have chk : ∀ n u, (chkN most n u).2.2 ≤ 4 := by intro n u; unfold chkN; split <;> simp
  cases l with
  | nil => simp [firstN]
  | cons c r =>
    unfold firstN
    repeat' split
    all_goals first | exact chk _ _ | simp

def rdNum (most : Int) (l : List UInt8) (e : Int) : Nat × List UInt8 × Int :=
  if e = 0 then (if (firstN most l).2.2 = 0 then ((firstN most l).1, l.drop (firstN most l).2.1, (0 : Int)) else (0, l, (((firstN most l).2.2 : Nat) : Int))) else (0, l, e)

set_option maxRecDepth 20000 in
set_option maxHeartbeats 1000000 in
theorem rdNum_any (B : Nat) (l : List UInt8) (e most : Int) (W : World) (h : RdrAt W B l e) :
    Calls Try.prog 123 #[.pointer (some ⟨B, 0, none⟩), .int .i64 most] W fun x w' => x = .returned (.int .i64 ((rdNum most l e).1 : Nat)) ∧ RdrAt w' B (rdNum most l e).2.1 (rdNum most l e).2.2 ∧ Only B W w' := by
  have H := hid h
  obtain ⟨a, cap, hB, hs⟩ := h
  have HS := hid hs
  obtain ⟨c0, c1, f0, f1⟩ := two_cells hB
  clear hB hs
  by_cases he : e = 0
  · subst he
    have HF := hid (fun w (hw : W = w) => first_any a l.length cap l most w (hw ▸ HS.out))
    have HU := hid (firstN_used most l)
    have hx := firstN_err most l
    have HR : Hid (rdNum most l 0 = if (firstN most l).2.2 = 0 then ((firstN most l).1, l.drop (firstN most l).2.1, (0 : Int)) else (0, l, (((firstN most l).2.2 : Nat) : Int))) := hid rfl
    generalize firstN most l = t at *
    obtain ⟨n, u, x⟩ := t
    simp only [trip] at HF HU hx HR
    by_cases h0 : x = 0
    · subst h0
      rw [if_pos rfl] at HR
      obtain ⟨u1, u2, n1, n2⟩ := HU.out rfl
      have hcap := HS.out.len
      have hcap1 : l.length ≤ cap := hcap.2.1
      have hcap2 : cap ≤ 9223372036854775807 := by have := hcap.2.2; unfold maxLen at this; omega
      have hu1 : (u : Int) ≤ (l.length : Int) := by omega
      obtain ⟨b, off, rfl, _⟩ := HS.out.2.2.2 (by rw [bcells_length]; omega)
      clear HU n1 n2 hcap
      go_enter Try.func123, Try.ntmps123
      go_wp2_with (go_at_call 125; refine (HF.out _ rfl).mono ?_; rintro e w' ⟨rfl, rfl⟩)
      all_goals go_ret
      all_goals rw [HR.out]
      all_goals refine ⟨rfl, ?_, (Only.refl B W).set 0 _⟩
      all_goals first
        | exact H.out.rest1 HS.out u2
        | exact H.out.rest0 HS.out u2 (by omega)
    · rw [if_neg h0] at HR
      have hne : (((x : Nat) : Int) != 0) = true := by simp; omega
      clear HU
      go_enter Try.func123, Try.ntmps123
      go_wp2_with (go_at_call 125; refine (HF.out _ rfl).mono ?_; rintro e w' ⟨rfl, rfl⟩)
      go_ret
      rw [HR.out]
      exact ⟨rfl, H.out.setErr _, (Only.refl B W).set 1 _⟩
  · have hne : (e != 0) = true := by simp [he]
    have HR : Hid (rdNum most l e = (0, l, e)) := hid (by rw [rdNum, if_neg he])
    clear he
    go_enter Try.func123, Try.ntmps123
    go_wp2
    go_ret
    rw [HR.out]
    exact ⟨rfl, H.out, Only.refl B W⟩

def rdText (most : Int) (l : List UInt8) (e : Int) : List UInt8 × List UInt8 × Int :=
  if e = 0 then (if (firstN most l).2.2 = 0 then (if l.length - (firstN most l).2.1 < (firstN most l).1 then ([], l, (2 : Int)) else ((l.drop (firstN most l).2.1).take (firstN most l).1, l.drop ((firstN most l).2.1 + (firstN most l).1), (0 : Int))) else ([], l, (((firstN most l).2.2 : Nat) : Int))) else ([], l, e)

theorem isBytes_nil (w : World) (a : Option Addr) (cap : Nat) (h : cap ≤ maxLen) : IsBytes w a 0 cap [] := Sl.nil _ _ _ _ h

set_option maxRecDepth 20000 in
set_option maxHeartbeats 2000000 in
theorem rdText_any (B : Nat) (l : List UInt8) (e most : Int) (W : World) (h : RdrAt W B l e) :
    Calls Try.prog 100 #[.pointer (some ⟨B, 0, none⟩), .int .i64 most] W fun x w' => x = .returned (.string ⟨(rdText most l e).1.toArray⟩) ∧ RdrAt w' B (rdText most l e).2.1 (rdText most l e).2.2 ∧ Only B W w' := by
  have H := hid h
  obtain ⟨a, cap, hB, hs⟩ := h
  have HS := hid hs
  obtain ⟨c0, c1, f0, f1⟩ := two_cells hB
  clear hB hs
  by_cases he : e = 0
  · subst he
    have HF := hid (fun w (hw : W = w) => first_any a l.length cap l most w (hw ▸ HS.out))
    have HU := hid (firstN_used most l)
    have hx := firstN_err most l
    have HR : Hid (rdText most l 0 = if (firstN most l).2.2 = 0 then (if l.length - (firstN most l).2.1 < (firstN most l).1 then ([], l, (2 : Int)) else ((l.drop (firstN most l).2.1).take (firstN most l).1, l.drop ((firstN most l).2.1 + (firstN most l).1), (0 : Int))) else ([], l, (((firstN most l).2.2 : Nat) : Int))) := hid rfl
    generalize firstN most l = t at *
    obtain ⟨n, u, x⟩ := t
    simp only [trip] at HF HU hx HR
    by_cases h0 : x = 0
    · subst h0
      rw [if_pos rfl] at HR
      obtain ⟨u1, u2, n1, n2⟩ := HU.out rfl
      have hcap := HS.out.len
      have hcap1 : l.length ≤ cap := hcap.2.1
      have hcap2 : cap ≤ 9223372036854775807 := by have := hcap.2.2; unfold maxLen at this; omega
      have hu1 : (u : Int) ≤ (l.length : Int) := by omega
      obtain ⟨b, off, rfl, _⟩ := HS.out.2.2.2 (by rw [bcells_length]; omega)
      clear HU n2 hcap
      by_cases hsh : l.length - u < n
      · rw [if_pos hsh] at HR
        have hd : decide ((l.length : Int) - (u : Int) < (n : Int)) = true := by simp; omega
        have hd2 : (l.length : Int) - (u : Int) < (n : Int) := by omega
        clear hsh n1
        go_enter Try.func100, Try.ntmps100
        go_wp2_with (go_at_call 125; refine (HF.out _ rfl).mono ?_; rintro e w' ⟨rfl, rfl⟩)
        go_ret
        rw [HR.out]
        exact ⟨rfl, H.out.setErr _, (Only.refl B W).set 1 _⟩
      · rw [if_neg hsh] at HR
        have hd : decide ((l.length : Int) - (u : Int) < (n : Int)) = false := by simp; omega
        have hd2 : (n : Int) ≤ (l.length : Int) - (u : Int) := by omega
        have hun : u + n ≤ l.length := by omega
        have hcv := conv_str (P := Try.prog) (src := 24) (dst := 9) Try.underlying24 Try.underlying5 Try.underlying9 (isBytes_mid HS.out u n hun)
        clear hsh n1
        by_cases hcu : cap = u
        · obtain rfl : n = 0 := by omega
          have hcv0 := conv_str (P := Try.prog) (src := 24) (dst := 9) Try.underlying24 Try.underlying5 Try.underlying9 (isBytes_nil W (some ⟨b, off, none⟩) 0 (Nat.zero_le _))
          have HCU := hid hcu
          clear hcv
          subst hcu
          clear hun hd2
          go_enter Try.func100, Try.ntmps100
          go_wp2_with (go_at_call 125; refine (HF.out _ rfl).mono ?_; rintro e w' ⟨rfl, rfl⟩)
          all_goals go_ret
          all_goals rw [HR.out]
          all_goals refine ⟨by simp, ?_, (Only.refl B W).set 0 _⟩
          all_goals simp only [Nat.add_zero]
          all_goals first
            | exact H.out.rest1 HS.out u2
            | (have hz := H.out.rest0 HS.out u2 (by omega); rw [show l.length - cap = 0 by omega] at hz; exact hz)
        · have hcu2 : ¬ (u = cap) := fun h => hcu h.symm
          go_enter Try.func100, Try.ntmps100
          go_wp2_with (go_at_call 125; refine (HF.out _ rfl).mono ?_; rintro e w' ⟨rfl, rfl⟩)
          all_goals go_ret
          all_goals rw [HR.out]
          all_goals refine ⟨rfl, ?_, (Only.refl B W).set 0 _⟩
          all_goals first
            | exact H.out.rest1 HS.out hun
            | exact H.out.rest0 HS.out hun (by omega)
    · rw [if_neg h0] at HR
      have hne : (((x : Nat) : Int) != 0) = true := by simp; omega
      have hne2 : (((x : Nat) : Int) == 0) = false := by simp; omega
      clear HU
      go_enter Try.func100, Try.ntmps100
      go_wp2_with (go_at_call 125; refine (HF.out _ rfl).mono ?_; rintro e w' ⟨rfl, rfl⟩)
      go_ret
      rw [HR.out]
      exact ⟨rfl, H.out.setErr _, (Only.refl B W).set 1 _⟩
  · have hne : (e != 0) = true := by simp [he]
    have HR : Hid (rdText most l e = ([], l, e)) := hid (by rw [rdText, if_neg he])
    clear he
    go_enter Try.func100, Try.ntmps100
    go_wp2
    go_ret
    rw [HR.out]
    exact ⟨rfl, H.out, Only.refl B W⟩
end Go.Proofs.Ytkepfkfoblocgaa
