/- Tapes: New, Add onto an empty one, Next, Below, as contracts. -/
import Derived.Test.YtadjmgmdnekllaaDrawM
import Derived.Test.YtadjmgmdnekllaaOnly
import Derived.Test.YtadjmgmdnekllaaSlice
import Derived.Test.YtadjmgmdnekllaaStep
import Derived.Outline
namespace Go.Proofs.Ytadjmgmdnekllaa
open Go.RowKit
set_option linter.unusedVariables false
set_option linter.unusedSimpArgs false

def ucells (l : List Nat) : List Value := l.map fun (x : Nat) => .int .u64 (x : Int)
theorem ucells_length (l : List Nat) : (ucells l).length = l.length := by simp [ucells]
theorem ucells_one (l : List Nat) : ∀ u ∈ ucells l, u.oneCell' = true := by
  intro u hu
  simp only [ucells, List.mem_map] at hu
  obtain ⟨c, _, rfl⟩ := hu
  rfl
theorem info_u64 : (Try.prog.info? 22).map (fun i => (i.zero, i.size, i.bytes)) = some (some (.int .u64 0), 1, 8) := by kernel_rfl
/-- Block T is a tape with these draws, which lie in blocks below N. -/
def TapeAt (w : World) (T N : Nat) (l : List Nat) : Prop := ∃ A c, w.heap[T]? = some (.cells #[.slice A l.length c] 162 (0, 0)) ∧ Sl w 1 A l.length c (ucells l) ∧ (0 < l.length → ∃ b off, A = some ⟨b, off, none⟩ ∧ b < N)
theorem TapeAt.lt {w : World} {T N : Nat} {l : List Nat} (h : TapeAt w T N l) : T < w.heap.size := by
  obtain ⟨_, _, h, _⟩ := h
  exact lt_of_block h
theorem TapeAt.below {w w' : World} {T N : Nat} {l : List Nat} (h : TapeAt w T N l) (hb : Below w.heap.size w w') : TapeAt w' T N l := by
  obtain ⟨A, c, h1, h2, h3⟩ := h
  exact ⟨A, c, keep0 h1 hb, h2.below hb, h3⟩
theorem TapeAt.of {w : World} {T : Nat} {A : Option Addr} {c : Nat} {l : List Nat} (h1 : w.heap[T]? = some (.cells #[.slice A l.length c] 162 (0, 0))) (h2 : Sl w 1 A l.length c (ucells l)) : TapeAt w T w.heap.size l := by
  refine ⟨A, c, h1, h2, fun h0 => ?_⟩
  obtain ⟨b, off, rfl, hc⟩ := Sl.at h2 0 (by rw [ucells_length]; exact h0)
  exact ⟨b, off, rfl, lt_of_cell hc⟩
theorem TapeAt.now {w : World} {T N : Nat} {l : List Nat} (h : TapeAt w T N l) : TapeAt w T w.heap.size l := by
  obtain ⟨A, c, h1, h2, h3⟩ := h
  exact TapeAt.of h1 h2
theorem TapeAt.only {w w' : World} {T N R : Nat} {l : List Nat} (h : TapeAt w T N l) (ho : Only R w w') (hR : N ≤ R) (hT : T ≠ R) : TapeAt w' T N l := by
  obtain ⟨A, c, h1, h2, h3⟩ := h
  refine ⟨A, c, ho.block h1 hT, ⟨h2.1, h2.2.1, h2.2.2.1, fun h0 => ?_⟩, h3⟩
  obtain ⟨b, off, ha, hc⟩ := h2.2.2.2 h0
  obtain ⟨b', off', ha', hb⟩ := h3 (by rw [← ucells_length]; exact h0)
  rw [ha] at ha'
  cases ha'
  refine ⟨b, off, ha, fun i hi => ?_⟩
  have h4 := hc i hi
  rw [List.getElem?_eq_getElem hi] at h4 ⊢
  rw [World.cell?_of_block (ho.keep b (by omega) (lt_of_cell h4))]
  exact h4
/-- A store of a slice value into a block of one slice leaves rows of integers alone. -/
theorem sl_apart {w : World} {A : Option Addr} {len cap T t : Nat} {l : List Nat} {x : Value} (h : Sl w 1 A len cap (ucells l)) (hT : w.heap[T]? = some (.cells #[x] t (0, 0))) (hx : ∀ n, x ≠ .int .u64 n) (v : Value) : Sl (w.setCell ⟨T, 0, none⟩ v) 1 A len cap (ucells l) := by
  refine ⟨h.1, h.2.1, h.2.2.1, fun h0 => ?_⟩
  obtain ⟨b, off, rfl, hc⟩ := h.2.2.2 h0
  have hne : b ≠ T := by
    rintro rfl
    have h1 := hc 0 h0
    rw [Nat.add_zero, cell_of_row w b off _ t (0, 0) hT, List.getElem?_eq_getElem h0] at h1
    simp only [ucells, List.getElem_map] at h1
    match off, h1 with
    | 0, h1 => simp at h1; exact hx _ h1
    | m + 1, h1 => simp at h1
  refine ⟨b, off, rfl, fun i hi => ?_⟩
  rw [World.cell?_of_block (Below.heap_setCell _ _ _ _ hne), hc i hi]

set_option maxRecDepth 20000 in
theorem tnew_any (A : Option Addr) (len cap : Nat) (l : List Nat) (W : World) (h : Sl W 1 A len cap (ucells l)) (hl : len ≤ 1000) :
    Calls Try.prog 34 #[.slice A len cap] W fun e w' => ∃ T, e = .returned (.pointer (some ⟨T, 0, none⟩)) ∧ W.heap.size ≤ T ∧ TapeAt w' T w'.heap.size l ∧ Below W.heap.size W w' := by
  obtain rfl : len = l.length := by have := h.1; rw [ucells_length] at this; omega
  have HA := hid h
  have HL := hid hl
  clear h hl
  have HADD : Hid (∀ w, Below W.heap.size W w → w.heap[W.heap.size]? = some (.cells #[.slice none 0 0] 162 (0, 0)) → Calls Try.prog 41 #[.pointer (some ⟨W.heap.size, 0, none⟩), .slice A l.length cap] w fun e w' => (∃ v, e = .returned v) ∧ TapeAt w' W.heap.size w'.heap.size l ∧ Below W.heap.size W w') := by
    intro w hb hT
    have hc := cell_of_row w W.heap.size 0 _ _ _ hT
    have hf := frozen_of_row w W.heap.size 0 _ _ hT
    have HT := hid hT
    have HB := hid hb
    clear hT hb
    simp at hc
    go_enter Try.func41, Try.ntmps41
    go_wp2_with (at_builtin; refine wpList_append_sl (W := w) rfl (.tmp 10) (.tmp 11) 38 rfl w.heap.size 22 Try.underlying38 info_u64 rfl (by omega) rfl (World.ownsRow_nil _ _ _ _) rfl (HA.out.below HB.out) (ucells_one _) (by have := HL.out; unfold maxLen; omega) (by have := HL.out; omega) (Nat.le_refl _) (Below.refl _ _) ?_)
    intro v1 w1 ho1 hb1 _
    obtain ⟨A1, c1, rfl, hs1⟩ := Sl.of_own ho1
    have HS1 := hid hs1
    clear hs1
    have hT1 := keep0 HT.out hb1
    have hc1 := cell_of_row w1 W.heap.size 0 _ _ _ hT1
    have hf1 := frozen_of_row w1 W.heap.size 0 _ _ hT1
    simp at hc1
    have HT1 := hid hT1
    have HB1 := hid hb1
    clear hT1 ho1 hb1
    go_wp2
    go_end0
    refine ⟨⟨_, rfl⟩, ?_, ?_⟩
    · exact TapeAt.of (by simpa using heap_setCell_same w1 W.heap.size 0 _ _ (.slice A1 l.length c1) HT1.out) (sl_apart HS1.out HT1.out (fun n => by simp) _)
    · exact (HB.out.trans (HB1.out.mono HB.out.size)).setCell (Nat.le_refl _) _
  go_enter Try.func34, Try.ntmps34
  go_wp2_with fail
  refine (HADD.out _ ((Below.refl _ _).alloc (Nat.le_refl _) _) (heap_alloc_new _ _)).mono ?_
  rintro e w1 ⟨⟨v, rfl⟩, hT, hb⟩
  have HT := hid hT
  have HB := hid hb
  clear hT hb HADD
  go_wp2
  go_ret
  exact ⟨W.heap.size, rfl, Nat.le_refl _, HT.out, HB.out⟩

set_option maxRecDepth 20000 in
theorem tnext_any (T N : Nat) (l : List Nat) (W : World) (h : TapeAt W T N l) (hl : l.length ≤ 9223372036854775807) :
    Calls Try.prog 36 #[.pointer (some ⟨T, 0, none⟩)] W fun e w' => e = .returned (.int .u64 (l.headD 0 : Nat)) ∧ TapeAt w' T N l.tail ∧ Only T W w' := by
  have H := hid h
  obtain ⟨A, c, hT, hs, hN⟩ := h
  have hc := cell_of_row W T 0 _ _ _ hT
  have hf := frozen_of_row W T 0 _ _ hT
  simp at hc
  rcases l with _ | ⟨x, r⟩
  · clear hs hT
    go_enter Try.func36, Try.ntmps36
    go_wp2
    go_ret
    exact ⟨rfl, H.out, Only.refl _ _⟩
  · have hcap : (x :: r).length ≤ c := hs.2.1
    obtain ⟨b, off, rfl, hc0⟩ := Sl.at hs 0 (by simp [ucells])
    have hbN : b < N := by obtain ⟨b', off', h1, h2⟩ := hN (by simp); cases h1; exact h2
    clear hN
    have HBN := hid hbN
    clear hbN
    simp [ucells] at hc0
    have HD := hid (hs.drop 1 (by simp))
    have hrun : ∀ w : World, (Instr.slice 38 (.slice (some ⟨b, off, none⟩) (x :: r).length c) (some (.int .i64 1)) none none).run Try.prog w = .ok (.slice (dropA (some ⟨b, off, none⟩) c 1 1) ((x :: r).length - 1) (c - 1)) w := fun w => by
      have := run_from Try.underlying38 info_u64 (some ⟨b, off, none⟩) (x :: r).length c 1 (by simp) w
      simpa using this
    have HT := hid hT
    have hlen : (x :: r).length = r.length + 1 := rfl
    rw [hlen] at hrun hc HT HD hl
    have hp : (0 : Int) < ((r.length + 1 : Nat) : Int) := by omega
    have hne : (((r.length + 1 : Nat) : Int) == 0) = false := by simp; omega
    generalize hnn : r.length + 1 = n at *
    have HN := hid hnn
    have HC := hid hcap
    clear hnn
    clear hs hT hcap H hlen
    go_enter Try.func36, Try.ntmps36
    go_wp2
    go_ret
    have hn := HN.out
    have e1 : n - 1 = r.length := by omega
    have h2 := HD.out
    have h3 := heap_setCell_same W T 0 _ _ (.slice (dropA (some ⟨b, off, none⟩) c 1 1) (n - 1) (c - 1)) HT.out
    rw [e1] at h2 h3 ⊢
    refine ⟨rfl, ⟨_, _, by simpa using h3, ?_, fun h0 => ?_⟩, (Only.refl _ _).set 0 _⟩
    · exact sl_apart (by simpa [ucells] using h2) HT.out (fun n => by simp) _
    · simp only [List.tail_cons] at h0
      refine ⟨b, off + 1, ?_, HBN.out⟩
      have : c ≠ 1 := by have := HC.out; simp only [List.length_cons] at this; omega
      rw [dropA, if_neg this]
      simp [add_none]

/-- What Below(n) tells and leaves. -/
def blw (n : Int) (l : List Nat) : Nat := if n < 1 then 0 else l.headD 0 % n.toNat
set_option maxRecDepth 20000 in
theorem tbelow_any (T N : Nat) (l : List Nat) (n : Int) (W : World) (h : TapeAt W T N l) (hl : l.length ≤ 9223372036854775807) (hu : ∀ x ∈ l, x < 18446744073709551616) (hn : n ≤ 9223372036854775807) :
    Calls Try.prog 38 #[.pointer (some ⟨T, 0, none⟩), .int .i64 n] W fun e w' => e = .returned (.int .i64 (blw n l : Nat)) ∧ TapeAt w' T N (if n < 1 then l else l.tail) ∧ Only T W w' := by
  have H := hid h
  have HX := hid (tnext_any T N l W h hl)
  clear h
  by_cases h1 : n < 1
  · have hb : blw n l = 0 := by rw [blw, if_pos h1]
    rw [hb, if_pos h1]
    clear hb HX hu
    go_enter Try.func38, Try.ntmps38
    go_wp2
    go_ret
    exact ⟨rfl, H.out, Only.refl _ _⟩
  · obtain ⟨m, rfl⟩ : ∃ m : Nat, n = (m : Int) := ⟨n.toNat, by omega⟩
    have hb : blw (m : Int) l = l.headD 0 % m := by rw [blw, if_neg h1, Int.toNat_natCast]
    have hx : l.headD 0 < 18446744073709551616 := by
      cases l with
      | nil => simp
      | cons x r => exact hu x (by simp)
    have hm : (1 : Int) ≤ (m : Int) := by omega
    have hmod := Nat.mod_lt (l.headD 0) (show 0 < m by omega)
    have hz : ((m : Int) == 0) = false := by rw [beq_eq_false_iff_ne]; omega
    rw [hb, if_neg h1]
    generalize l.headD 0 = x at *
    clear hu hb h1
    have hq : ((x : Int) % (m : Int)) = ((x % m : Nat) : Int) := rfl
    have hq2 : ((x : Int).tmod (m : Int)) = ((x % m : Nat) : Int) := rfl
    generalize x % m = y at *
    go_enter Try.func38, Try.ntmps38
    go_wp2_with fail
    refine HX.out.mono ?_
    rintro e w1 ⟨rfl, hT, hO⟩
    have HT := hid hT
    have HO := hid hO
    clear hT hO HX
    go_wp2
    go_ret
    exact ⟨rfl, HT.out, HO.out⟩
end Go.Proofs.Ytadjmgmdnekllaa
