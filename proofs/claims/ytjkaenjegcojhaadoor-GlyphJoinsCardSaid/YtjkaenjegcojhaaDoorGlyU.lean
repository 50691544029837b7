/- GlyphJoins: the runes joined; offsets rise; what a name folds to. -/
import Derived.Test.YtjkaenjegcojhaaDoorGlyL
import Derived.Test.YtjkaenjegcojhaaDoorGlyG
import Derived.Test.YtjkaenjegcojhaaDoorLexM
import Derived.Laws.Concat
namespace Go.Proofs.YtjkaenjegcojhaaDoor
open Go.RowKit
set_option linter.unusedVariables false
set_option linter.unusedSimpArgs false

theorem low_low (b : UInt8) : low (low b) = low b := by
  by_cases h : 65 ≤ b.toNat ∧ b.toNat ≤ 90
  · have h1 := low_cap b h
    rw [low, if_neg (by omega)]
  · have h1 : low b = b := by rw [low, if_neg h]
    rw [h1, h1]
theorem map_low_low (l : List UInt8) : (l.map low).map low = l.map low := by
  rw [List.map_map]
  exact List.map_congr_left fun b _ => low_low b
theorem low_id {b : UInt8} (h : ¬ (65 ≤ b.toNat ∧ b.toNat ≤ 90)) : low b = b := by rw [low, if_neg h]
theorem take_low_id (l : List UInt8) : ∀ n, n ≤ l.length → (∀ k, k < n → ¬ (65 ≤ nb l k ∧ nb l k ≤ 90)) → (l.take n).map low = l.take n
  | 0, _, _ => rfl
  | n + 1, h, hk => by
    have ih := take_low_id l n (by omega) fun k h2 => hk k (by omega)
    have h9 : l.take (n + 1) = l.take n ++ [l.getD n 0] := by
      rw [List.take_add_one, List.getElem?_eq_getElem (by omega), List.getD_eq_getElem?_getD, List.getElem?_eq_getElem (by omega)]
      rfl
    rw [h9, List.map_append, ih]
    have := hk n (by omega)
    rw [nb] at this
    rw [List.map_cons, low_id this]
    rfl
/-- A letter of a name has no capital's byte. -/
theorem let_low (l : List UInt8) (h0 : 0 < l.length) (h : 0 < szN l) (hl : LetP (codeN l (szN l) : Int)) : (l.take (szN l)).map low = l.take (szN l) := by
  have hz := (szN_le l h0).1
  refine take_low_id l _ hz fun k hk => ?_
  rcases szN_facts l with e | ⟨e, h1⟩ | ⟨e, h1, h2, hl2, c1⟩ | ⟨e, h1, h2, hl2, c1, c2, hb⟩ | ⟨e, h1, h2, hl2, c1, c2, c3, hb⟩
  · omega
  · have hk0 : k = 0 := by omega
    subst hk0
    rw [e, codeN_1] at hl
    unfold LetP at hl
    omega
  · unfold contN at c1
    have : k = 0 ∨ k = 1 := by omega
    rcases this with rfl | rfl <;> omega
  · unfold contN at c1 c2
    have : k = 0 ∨ k = 1 ∨ k = 2 := by omega
    rcases this with rfl | rfl | rfl <;> omega
  · unfold contN at c1 c2 c3
    have : k = 0 ∨ k = 1 ∨ k = 2 ∨ k = 3 := by omega
    rcases this with rfl | rfl | rfl | rfl <;> omega
theorem drop_split (l : List UInt8) (i n : Nat) : l.drop i = (l.drop i).take n ++ l.drop (i + n) := by
  rw [← List.drop_drop, List.take_append_drop]
theorem name_low (l : List UInt8) : ∀ (f i : Nat), l.length - i ≤ f → (rns l i).all okR = true → (l.drop i).map low = l.drop i
  | f, i, hf, h => by
    by_cases hi : i < l.length
    · cases f with
      | zero => omega
      | succ f =>
        rw [rns_step l i hi, List.all_cons, Bool.and_eq_true] at h
        obtain ⟨h1, h2⟩ := h
        have h3 := szN_1 (l.drop i)
        have ih := name_low l f _ (by omega) h2
        simp only [okR, Bool.and_eq_true, decide_eq_true_eq] at h1
        obtain ⟨h4, h5⟩ := h1
        have h6 : max (szN (l.drop i)) 1 = szN (l.drop i) := by omega
        rw [h6] at ih
        have h7 := let_low (l.drop i) (by rw [List.length_drop]; omega) h4 h5
        rw [drop_split l i (szN (l.drop i)), List.map_append, ih]
        rw [h7]
    · rw [List.drop_eq_nil_of_le (by omega)]; rfl
theorem name_fold (l : List UInt8) (h : gN 0 (rns l 0) = true) : l.map low = l := by
  rw [name_eq, nameR.eq_def, Bool.and_eq_true] at h
  exact name_low l _ 0 (Nat.le_refl _) h.1
/-- The text of some runes. -/
def encB (c : Nat) : List UInt8 := (Utf8.encode (c : Int)).data.toList
theorem str_back (b : ByteArray) : b = str b.data.toList := by cases b; simp [str]
theorem enc_str (c : Nat) : Utf8.encode (c : Int) = str (encB c) := by
  rw [encB]
  generalize Utf8.encode (c : Int) = b
  exact str_back b
theorem enc4 (n : Nat) (b : Nat → UInt8) : (if n < 0x80 then (⟨#[b n]⟩ : ByteArray) else if n < 0x800 then ⟨#[b (0xC0 + n / 64), b (0x80 + n % 64)]⟩ else if n < 0x10000 then ⟨#[b (0xE0 + n / 4096), b (0x80 + n / 64 % 64), b (0x80 + n % 64)]⟩ else ⟨#[b (0xF0 + n / 262144), b (0x80 + n / 4096 % 64), b (0x80 + n / 64 % 64), b (0x80 + n % 64)]⟩).data.toList.length ≤ 4 := by
  by_cases h1 : n < 0x80
  · rw [if_pos h1]; exact (by omega : 1 ≤ 4)
  · by_cases h2 : n < 0x800
    · rw [if_neg h1, if_pos h2]; exact (by omega : 2 ≤ 4)
    · by_cases h3 : n < 0x10000
      · rw [if_neg h1, if_neg h2, if_pos h3]; exact (by omega : 3 ≤ 4)
      · rw [if_neg h1, if_neg h2, if_neg h3]; exact (by omega : 4 ≤ 4)
theorem encB_len (c : Nat) : (encB c).length ≤ 4 := by
  rw [encB]
  delta Utf8.encode
  extract_lets n b
  exact enc4 n b
def tP (pre : List (Nat × Nat)) : List UInt8 := pre.flatMap fun x => encB x.2
theorem tP_len : ∀ pre : List (Nat × Nat), (tP pre).length ≤ 4 * pre.length
  | [] => Nat.zero_le _
  | x :: pre => by
    have := tP_len pre
    have h2 := encB_len x.2
    have e : tP (x :: pre) = encB x.2 ++ tP pre := rfl
    rw [e, List.length_append, List.length_cons]
    omega
theorem tP_snoc (pre : List (Nat × Nat)) (x : Nat × Nat) : tP (pre ++ [x]) = tP pre ++ encB x.2 := by simp [tP]
def lastP (pre : List (Nat × Nat)) : Int := match pre.getLast? with | none => -1 | some x => (x.1 : Int)
theorem lastP_nil : lastP [] = -1 := rfl
theorem lastP_snoc (pre : List (Nat × Nat)) (x : Nat × Nat) : lastP (pre ++ [x]) = (x.1 : Int) := by simp [lastP]
/-- The law's own test of an offset. -/
def BadP (pre : List (Nat × Nat)) (x : Nat × Nat) : Prop := (x.1 : Int) ≤ lastP pre ∨ (lastP pre < 0 ∧ (x.1 : Int) ≠ 0)
theorem rns_ge (l : List UInt8) : ∀ (f i : Nat), l.length - i ≤ f → ∀ r ∈ rns l i, i ≤ r.1
  | f, i, hf, r, hr => by
    by_cases hi : i < l.length
    · cases f with
      | zero => omega
      | succ f =>
        have h3 := szN_1 (l.drop i)
        rw [rns_step l i hi, List.mem_cons] at hr
        rcases hr with rfl | hr
        · exact Nat.le_refl _
        · have := rns_ge l f _ (by omega) r hr
          omega
    · rw [rns_end l i (by omega)] at hr
      cases hr
theorem rns_rise (l : List UInt8) : ∀ (f i : Nat), l.length - i ≤ f → (rns l i).Pairwise (fun a b => a.1 < b.1)
  | f, i, hf => by
    by_cases hi : i < l.length
    · cases f with
      | zero => omega
      | succ f =>
        have h3 := szN_1 (l.drop i)
        rw [rns_step l i hi, List.pairwise_cons]
        refine ⟨fun b hb => ?_, rns_rise l f _ (by omega)⟩
        have := rns_ge l _ _ (Nat.le_refl _) b hb
        show i < b.1
        omega
    · rw [rns_end l i (by omega)]
      exact List.Pairwise.nil
theorem rnP_rise (l : List UInt8) : (rnP l).Pairwise (fun a b => a.1 < b.1) := by
  unfold rnP
  rw [List.pairwise_map]
  exact rns_rise l _ 0 (Nat.le_refl _)
theorem not_bad (l : List UInt8) (pre : List (Nat × Nat)) (x : Nat × Nat) (h : pre ++ [x] <+: rnP l) : ¬ BadP pre x := by
  obtain ⟨t, ht⟩ := h
  have hp := rnP_rise l
  rw [← ht, List.append_assoc, List.pairwise_append] at hp
  obtain ⟨_, _, h3⟩ := hp
  intro hb
  rcases List.eq_nil_or_concat pre with rfl | ⟨p, y, rfl⟩
  · have h0 : x.1 = 0 := by
      by_cases hl : 0 < l.length
      · have := rns_step l 0 hl
        unfold rnP at ht
        rw [this] at ht
        simp at ht
        exact congrArg Prod.fst ht.1
      · unfold rnP at ht
        rw [rns_end l 0 (by omega)] at ht
        simp at ht
    rcases hb with hb | ⟨_, hb⟩
    · rw [lastP_nil] at hb
      omega
    · omega
  · have h4 := h3 y (by simp) x (by simp)
    rcases hb with hb | ⟨hb, _⟩
    · rw [List.concat_eq_append, lastP_snoc] at hb
      omega
    · rw [List.concat_eq_append, lastP_snoc] at hb
      omega
theorem whole_text (l : List UInt8) (f : Nat) : ∀ (i : Nat), l.length - i ≤ f → whN l i = true → (rns l i).flatMap (fun r => encB r.2.1) = l.drop i := by
  induction f with
  | zero => intro i hf h; rw [rns_end l i (by omega), List.drop_eq_nil_of_le (by omega)]; rfl
  | succ f ihf =>
    intro i hf h
    by_cases hi : i < l.length
    · skip
      focus
        have h3 := szN_1 (l.drop i)
        rw [whN_step hi, Bool.and_eq_true, decide_eq_true_eq] at h
        have ih := ihf _ (by omega) h.2
        have h6 : max (szN (l.drop i)) 1 = szN (l.drop i) := by omega
        have h7 := enc_sz (l.drop i) (by rw [List.length_drop]; omega) h.1
        rw [rns_step l i hi, List.flatMap_cons, ih]
        dsimp only
        rw [h6]
        have h8 : encB (codeN (l.drop i) (szN (l.drop i))) = (l.drop i).take (szN (l.drop i)) := by
          have e := enc_str (codeN (l.drop i) (szN (l.drop i)))
          rw [h7] at e
          generalize encB (codeN (l.drop i) (szN (l.drop i))) = q at *
          have e2 := congrArg (fun b : ByteArray => b.data.toList) e
          simpa [str] using e2.symm
        rw [h8, ← drop_split]
    · rw [rns_end l i (by omega), List.drop_eq_nil_of_le (by omega)]; rfl
theorem whole_join (l : List UInt8) (h : whN l 0 = true) : tP (rnP l) = l := by
  have := whole_text l _ 0 (Nat.le_refl _) h
  unfold tP rnP
  rw [List.flatMap_map]
  exact this
theorem conv_runeG (c : Int) (w : World) : (convert 21 9 (.int .i32 c)).run Tryd.prog w = .ok (.string (Utf8.encode c)) w := by
  simp [convert, run_underlying Tryd.underlying21, run_underlying Tryd.underlying9, go_sem, Conv.intToString]
end Go.Proofs.YtjkaenjegcojhaaDoor
