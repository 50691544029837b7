/- What string(c) gives for a whole rune's number. -/
import Derived.Test.YtdphdodjidbngaaGlP
import Derived.Laws.DeepStrings4
import Derived.Test.YtdphdodjidbngaaGaP
import Derived.Lib.OthersKept
import Derived.Laws.Cover4
namespace Go.Proofs.Ytdphdodjidbngaa
open Go.RowKit
set_option linter.unusedVariables false
set_option linter.unusedSimpArgs false

theorem ofNat_nb (l : List UInt8) (k : Nat) : UInt8.ofNat (nb l k) = l.getD k 0 := by
  apply UInt8.toNat_inj.1
  rw [UInt8.toNat_ofNat', nb]
  have := (l.getD k 0).toNat_lt
  omega
theorem take_getD1 (l : List UInt8) (h : 1 ≤ l.length) : l.take 1 = [l.getD 0 0] := by
  match l, h with
  | a :: l, _ => rfl
theorem take_getD2 (l : List UInt8) (h : 2 ≤ l.length) : l.take 2 = [l.getD 0 0, l.getD 1 0] := by
  match l, h with
  | a :: b :: l, _ => rfl
theorem take_getD3 (l : List UInt8) (h : 3 ≤ l.length) : l.take 3 = [l.getD 0 0, l.getD 1 0, l.getD 2 0] := by
  match l, h with
  | a :: b :: c :: l, _ => rfl
theorem take_getD4 (l : List UInt8) (h : 4 ≤ l.length) : l.take 4 = [l.getD 0 0, l.getD 1 0, l.getD 2 0, l.getD 3 0] := by
  match l, h with
  | a :: b :: c :: d :: l, _ => rfl
/-- A number as the sizes' cases give it. -/
theorem szN_facts (l : List UInt8) : szN l = 0 ∨ (szN l = 1 ∧ nb l 0 < 128) ∨ (szN l = 2 ∧ 194 ≤ nb l 0 ∧ nb l 0 < 224 ∧ 2 ≤ l.length ∧ contN l 1) ∨ (szN l = 3 ∧ 224 ≤ nb l 0 ∧ nb l 0 < 240 ∧ 3 ≤ l.length ∧ contN l 1 ∧ contN l 2 ∧ ¬ badD (nb l 0) (nb l 1)) ∨ (szN l = 4 ∧ 240 ≤ nb l 0 ∧ nb l 0 < 245 ∧ 4 ≤ l.length ∧ contN l 1 ∧ contN l 2 ∧ contN l 3 ∧ ¬ badD (nb l 0) (nb l 1)) := by
  unfold szN
  split
  · rename_i h1
    exact .inr (.inl ⟨rfl, h1⟩)
  · split
    · exact .inl rfl
    · rename_i h2
      split
      · rename_i h3
        split
        · exact .inl rfl
        · rename_i h7
          unfold leadN at *
          split
          · rename_i h4
            rw [if_pos h4] at h2 h3
            exact .inr (.inr (.inl ⟨rfl, h4.1, h4.2, by omega, h3 1 (by omega) (by omega)⟩))
          · rename_i h4
            rw [if_neg h4] at h2 h3 h7
            split
            · rename_i h5
              rw [if_pos h5] at h2 h3 h7
              exact .inr (.inr (.inr (.inl ⟨rfl, h5.1, h5.2, by omega, h3 1 (by omega) (by omega), h3 2 (by omega) (by omega), fun h => h7 ⟨by omega, h⟩⟩)))
            · rename_i h5
              rw [if_neg h5] at h2 h3 h7
              split
              · rename_i h6
                rw [if_pos h6] at h2 h3 h7
                exact .inr (.inr (.inr (.inr ⟨rfl, h6.1, h6.2, by omega, h3 1 (by omega) (by omega), h3 2 (by omega) (by omega), h3 3 (by omega) (by omega), fun h => h7 ⟨by omega, h⟩⟩)))
              · exact .inl rfl
      · exact .inl rfl
/-- What string(c) gives for a whole rune's number: its bytes. -/
theorem enc_sz (l : List UInt8) (h0 : 0 < l.length) (h : 0 < szN l) : Utf8.encode (codeN l (szN l) : Nat) = str (l.take (szN l)) := by
  have b0 := nb_lt l 0
  have b1 := nb_lt l 1
  have b2 := nb_lt l 2
  have b3 := nb_lt l 3
  unfold Utf8.encode
  rcases szN_facts l with hz | ⟨hz, h1⟩ | ⟨hz, h1, h2, hl, c1⟩ | ⟨hz, h1, h2, hl, c1, c2, hb⟩ | ⟨hz, h1, h2, hl, c1, c2, c3, hb⟩
  · omega
  · rw [hz, codeN_1, take_getD1 l h0, ← ofNat_nb]
    have hv : Utf8.valid (nb l 0 : Int) = true := by simp [Utf8.valid]; omega
    rw [hv]
    simp only [if_true, Int.toNat_natCast]
    rw [if_pos (by omega)]
    rfl
  · unfold contN at c1
    have e0 : nb l 0 = 192 + codeN l 2 / 64 := by rw [codeN_2]; omega
    have e1 : nb l 1 = 128 + codeN l 2 % 64 := by rw [codeN_2]; omega
    have hr : 128 ≤ codeN l 2 ∧ codeN l 2 < 2048 := by rw [codeN_2]; omega
    rw [hz, take_getD2 l hl, ← ofNat_nb, ← ofNat_nb, e0, e1]
    generalize codeN l 2 = c at *
    have hv : Utf8.valid (c : Int) = true := by simp [Utf8.valid]; omega
    rw [hv]
    simp only [if_true, Int.toNat_natCast]
    rw [if_neg (by omega), if_pos (by omega)]
    rfl
  · unfold contN at c1 c2
    unfold badD at hb
    have e0 : nb l 0 = 224 + codeN l 3 / 4096 := by rw [codeN_3]; omega
    have e1 : nb l 1 = 128 + codeN l 3 / 64 % 64 := by rw [codeN_3]; omega
    have e2 : nb l 2 = 128 + codeN l 3 % 64 := by rw [codeN_3]; omega
    have hr : 2048 ≤ codeN l 3 ∧ codeN l 3 < 65536 ∧ (codeN l 3 < 55296 ∨ 57344 ≤ codeN l 3) := by rw [codeN_3]; omega
    rw [hz, take_getD3 l hl, ← ofNat_nb, ← ofNat_nb, ← ofNat_nb, e0, e1, e2]
    generalize codeN l 3 = c at *
    have hv : Utf8.valid (c : Int) = true := by simp [Utf8.valid]; omega
    rw [hv]
    simp only [if_true, Int.toNat_natCast]
    rw [if_neg (by omega), if_neg (by omega), if_pos (by omega)]
    rfl
  · unfold contN at c1 c2 c3
    unfold badD at hb
    have e0 : nb l 0 = 240 + codeN l 4 / 262144 := by rw [codeN_4]; omega
    have e1 : nb l 1 = 128 + codeN l 4 / 4096 % 64 := by rw [codeN_4]; omega
    have e2 : nb l 2 = 128 + codeN l 4 / 64 % 64 := by rw [codeN_4]; omega
    have e3 : nb l 3 = 128 + codeN l 4 % 64 := by rw [codeN_4]; omega
    have hr : 65536 ≤ codeN l 4 ∧ codeN l 4 ≤ 1114111 := by rw [codeN_4]; omega
    rw [hz, take_getD4 l hl, ← ofNat_nb, ← ofNat_nb, ← ofNat_nb, ← ofNat_nb, e0, e1, e2, e3]
    generalize codeN l 4 = c at *
    have hv : Utf8.valid (c : Int) = true := by simp [Utf8.valid]; omega
    rw [hv]
    simp only [if_true, Int.toNat_natCast]
    rw [if_neg (by omega), if_neg (by omega), if_neg (by omega)]
    rfl
end Go.Proofs.Ytdphdodjidbngaa

namespace Go.Proofs.Ytdphdodjidbngaa
open Go.RowKit
set_option linter.unusedVariables false
set_option linter.unusedSimpArgs false

def SigP (c : Int) : Prop := c = 40 ∨ c = 41 ∨ c = 33 ∨ c = 38 ∨ c = 124 ∨ c = 42
instance (c : Int) : Decidable (SigP c) := by unfold SigP; infer_instance
/-- A word: its text and its place. -/
abbrev Wd := List UInt8 × Nat
/-- More text for the last word. -/
def addL : List Wd → List UInt8 → List Wd
  | [], _ => []
  | [w], t => [(w.1 ++ t, w.2)]
  | w :: v :: ws, t => w :: addL (v :: ws) t
theorem addL_snoc : ∀ (ws : List Wd) (w : Wd) (t : List UInt8), addL (ws ++ [w]) t = ws ++ [(w.1 ++ t, w.2)]
  | [], w, t => rfl
  | [v], w, t => rfl
  | v :: u :: ws, w, t => by
    have := addL_snoc (u :: ws) w t
    simp only [List.cons_append, addL] at this ⊢
    rw [this]
/-- The bytes of a rune. -/
def bytesR (l : List UInt8) (p : Nat) : List UInt8 := (l.drop p).take (szN (l.drop p))
/-- The words, the place, the answer. -/
def lexF (l : List UInt8) : List Wd → Bool → Nat → List Rn → List Wd × Nat × Nat
  | ws, _, _, [] => (ws, 0, 0)
  | ws, run, at', r :: rs =>
    if LetP (r.2.1 : Int) then lexF l (addL (if run = true then ws else ws ++ [([], at')]) (bytesR l r.1)) true (at' + 1) rs
    else if SigP (r.2.1 : Int) then lexF l (ws ++ [([UInt8.ofNat r.2.1], at')]) false (at' + 1) rs
    else if r.2.1 = 32 then lexF l ws false (at' + 1) rs
    else ([], at', 3)
theorem lexF_let (l : List UInt8) (ws : List Wd) (run : Bool) (k : Nat) (r : Rn) (rs : List Rn) (h : LetP (r.2.1 : Int)) : lexF l ws run k (r :: rs) = lexF l (addL (if run = true then ws else ws ++ [([], k)]) (bytesR l r.1)) true (k + 1) rs := by rw [lexF, if_pos h]
theorem lexF_sig (l : List UInt8) (ws : List Wd) (run : Bool) (k : Nat) (r : Rn) (rs : List Rn) (h : ¬ LetP (r.2.1 : Int)) (h2 : SigP (r.2.1 : Int)) : lexF l ws run k (r :: rs) = lexF l (ws ++ [([UInt8.ofNat r.2.1], k)]) false (k + 1) rs := by rw [lexF, if_neg h, if_pos h2]
theorem lexF_blank (l : List UInt8) (ws : List Wd) (run : Bool) (k : Nat) (r : Rn) (rs : List Rn) (h3 : r.2.1 = 32) : lexF l ws run k (r :: rs) = lexF l ws false (k + 1) rs := by
  rw [lexF, if_neg (by unfold LetP; omega), if_neg (by unfold SigP; omega), if_pos h3]
theorem lexF_bad (l : List UInt8) (ws : List Wd) (run : Bool) (k : Nat) (r : Rn) (rs : List Rn) (h : ¬ LetP (r.2.1 : Int)) (h2 : ¬ SigP (r.2.1 : Int)) (h3 : r.2.1 ≠ 32) : lexF l ws run k (r :: rs) = ([], k, 3) := by rw [lexF, if_neg h, if_neg h2, if_neg h3]
/-- Behind a word's end it is all one whether one ran. -/
theorem lexF_run (l : List UInt8) (ws : List Wd) (k : Nat) (rs : List Rn) (h : ∀ r rs', rs = r :: rs' → ¬ LetP (r.2.1 : Int)) : lexF l ws true k rs = lexF l ws false k rs := by
  cases rs with
  | nil => rfl
  | cons r rs => rw [lexF, lexF, if_neg (h r rs rfl), if_neg (h r rs rfl)]
/-- Where the first of some runes stands. -/
def hdP (l : List UInt8) : List Rn → Nat
  | [] => l.length
  | r :: _ => r.1
theorem hd_pos (l : List UInt8) (p : Nat) (hp : p ≤ l.length) : hdP l (rns l p) = p := by
  by_cases h : p < l.length
  · rw [rns_step l p h]; rfl
  · rw [rns_end l p (by omega)]
    show l.length = p
    omega
theorem step_le (l : List UInt8) (p : Nat) (h : p < l.length) : p + max (szN (l.drop p)) 1 ≤ l.length := by
  have h1 := (szN_le (l.drop p) (by rw [List.length_drop]; omega)).1
  rw [List.length_drop] at h1
  omega
/-- What is left of the runes from the k-th on. -/
theorem drop_rns (l : List UInt8) : ∀ k, ∃ p, p ≤ l.length ∧ (rns l 0).drop k = rns l p
  | 0 => ⟨0, by omega, rfl⟩
  | k + 1 => by
    obtain ⟨p, hp, h⟩ := drop_rns l k
    have e : (rns l 0).drop (k + 1) = ((rns l 0).drop k).drop 1 := by rw [List.drop_drop]
    by_cases hlt : p < l.length
    · refine ⟨p + max (szN (l.drop p)) 1, step_le l p hlt, ?_⟩
      rw [e, h, rns_step l p hlt]
      rfl
    · refine ⟨l.length, Nat.le_refl _, ?_⟩
      rw [e, h, rns_end l p (by omega), rns_end l l.length (by omega)]
      rfl
theorem drop_step (l : List UInt8) (k p : Nat) (hlt : p < l.length) (h : (rns l 0).drop k = rns l p) : (rns l 0).drop (k + 1) = rns l (p + max (szN (l.drop p)) 1) := by
  have e : (rns l 0).drop (k + 1) = ((rns l 0).drop k).drop 1 := by rw [List.drop_drop]
  rw [e, h, rns_step l p hlt]
  rfl
/-- A letter is whole. -/
theorem let_whole (l : List UInt8) (p : Nat) (h : LetP (codeN (l.drop p) (szN (l.drop p)) : Int)) : 0 < szN (l.drop p) := by
  rcases Nat.eq_zero_or_pos (szN (l.drop p)) with e | e
  · rw [e, codeN_0] at h
    exact absurd h let_wrong
  · exact e
/-- A word's text, and one letter more. -/
theorem seg_step (l : List UInt8) (q p : Nat) (hq : q ≤ p) (h : LetP (codeN (l.drop p) (szN (l.drop p)) : Int)) : (l.drop q).take (p - q) ++ bytesR l p = (l.drop q).take (p + max (szN (l.drop p)) 1 - q) := by
  have h1 := let_whole l p h
  rw [Nat.max_eq_left (by omega), bytesR, show p + szN (l.drop p) - q = (p - q) + szN (l.drop p) by omega, List.take_add, List.drop_drop, show q + (p - q) = p by omega]
/-- The document's inner loop: a word that began at place i, byte q, grows by the k-th rune. -/
theorem lexF_grow (l : List UInt8) (ws : List Wd) (i k q p : Nat) (hp : p < l.length) (hq : q ≤ p) (h : LetP (codeN (l.drop p) (szN (l.drop p)) : Int)) :
    lexF l (ws ++ [((l.drop q).take (p - q), i)]) true k (rns l p) = lexF l (ws ++ [((l.drop q).take (p + max (szN (l.drop p)) 1 - q), i)]) true (k + 1) (rns l (p + max (szN (l.drop p)) 1)) := by
  rw [rns_step l p hp, lexF_let l _ true k _ _ h, if_pos rfl, addL_snoc, seg_step l q p hq h]
theorem lexF_first (l : List UInt8) (ws : List Wd) (i p : Nat) (hp : p < l.length) (h : LetP (codeN (l.drop p) (szN (l.drop p)) : Int)) :
    lexF l ws false i (rns l p) = lexF l (ws ++ [((l.drop p).take (p + max (szN (l.drop p)) 1 - p), i)]) true (i + 1) (rns l (p + max (szN (l.drop p)) 1)) := by
  rw [rns_step l p hp, lexF_let l _ false i _ _ h, if_neg (by simp), addL_snoc]
  have := seg_step l p p (Nat.le_refl _) h
  rw [Nat.sub_self, List.take_zero, List.nil_append] at this
  rw [List.nil_append, this]
/-- The cells of words. -/
def wcells (ws : List Wd) : List Value := ws.flatMap fun w => [.string (str w.1), .int .i64 (w.2 : Nat)]
theorem wcells_cons (w : Wd) (ws : List Wd) : wcells (w :: ws) = .string (str w.1) :: .int .i64 (w.2 : Nat) :: wcells ws := rfl
theorem wcells_length (ws : List Wd) : (wcells ws).length = ws.length * 2 := by
  induction ws with
  | nil => rfl
  | cons w ws ih => rw [wcells_cons]; simp only [List.length_cons, ih]; omega
theorem wcells_append (a b : List Wd) : wcells (a ++ b) = wcells a ++ wcells b := by simp [wcells]
theorem wcells_one (ws : List Wd) : ∀ u ∈ wcells ws, u.oneCell' = true := by
  induction ws with
  | nil => simp [wcells]
  | cons w ws ih =>
    intro u hu
    rw [wcells_cons, List.mem_cons, List.mem_cons] at hu
    rcases hu with rfl | rfl | hu
    · rfl
    · rfl
    · exact ih u hu
theorem wcells_get : ∀ (l : List Wd) (k : Nat) (h : k < l.length), (wcells l)[k * 2]? = some (.string (str l[k].1)) ∧ (wcells l)[k * 2 + 1]? = some (.int .i64 (l[k].2 : Nat))
  | w :: l, 0, _ => ⟨rfl, rfl⟩
  | w :: l, k + 1, h => by
    have ih := wcells_get l k (by simpa using h)
    rw [wcells_cons, show (k + 1) * 2 + 1 = k * 2 + 1 + 1 + 1 by omega, show (k + 1) * 2 = k * 2 + 1 + 1 by omega]
    simpa using ih
/-- The last word's text is set. -/
theorem wcells_add (ws : List Wd) (w : Wd) (t : List UInt8) : (wcells (ws ++ [w])).set (ws.length * 2) (.string (str (w.1 ++ t))) = wcells (addL (ws ++ [w]) t) := by
  rw [addL_snoc, wcells_append, wcells_append, List.set_append_right _ _ (by rw [wcells_length]; omega), wcells_length, Nat.sub_self]
  rfl
end Go.Proofs.Ytdphdodjidbngaa

namespace Go.Proofs.Ytdphdodjidbngaa
open Go.RowKit
set_option linter.unusedVariables false
set_option linter.unusedSimpArgs false

set_option maxHeartbeats 2000000 in
theorem sign_is (c : Int) (W : World) : Calls Try.prog 75 #[.int .i32 c] W fun e w' => e = .returned (.bool (decide (SigP c))) ∧ W = w' := by
  go_enter Try.func75, Try.ntmps75
  go_wp2
  all_goals go_ret
  all_goals exact ⟨ret_dec ⟨_, rfl, by unfold SigP; simp at * <;> omega⟩, rfl⟩
end Go.Proofs.Ytdphdodjidbngaa

namespace Go.Proofs.Ytdphdodjidbngaa
open Go.RowKit Go.Sort
set_option linter.unusedVariables false
set_option linter.unusedSimpArgs false

/-- The words of a text, the place, the answer. -/
def lexW (l : List UInt8) : List Wd × Nat × Nat := if 200 < l.length then ([], 0, 4) else lexF l [] false 0 (rns l 0)
theorem str_mid2 (l : List UInt8) (u n : Nat) : (str l).extract u (u + n) = str ((l.drop u).take n) := by
  apply ByteArray.ext
  simp [str, ByteArray.data_extract, List.extract_eq_take_drop]
theorem sl_mid (l : List UInt8) (a b : Nat) (h : a ≤ b) (hb : b ≤ l.length) (w : World) : (Instr.slice 9 (.string (str l)) (some (.int .i64 (a : Int))) (some (.int .i64 (b : Int))) none).run Try.prog w = .ok (.string (str ((l.drop a).take (b - a)))) w := by
  rw [run_slice_string_if w 9 (str l) .i64 .i64 (a : Int) (b : Int) Try.underlying9, if_pos ⟨by omega, by rw [str_size]; omega⟩, if_pos ⟨by omega, by omega⟩, Int.toNat_natCast, Int.toNat_natCast, ← str_mid2, show a + (b - a) = b by omega]
theorem rcells_get0 : ∀ (l : List Rn) (k : Nat) (h : k < l.length), (rcells l)[k * 3]? = some (.int .i64 (l[k].1 : Nat))
  | r :: l, 0, _ => rfl
  | r :: l, k + 1, h => by
    have ih := rcells_get0 l k (by simpa using h)
    rw [show rcells (r :: l) = .int .i64 (r.1 : Nat) :: .int .i64 (r.2.1 : Nat) :: .bool r.2.2 :: rcells l from rfl, show (k + 1) * 3 = k * 3 + 1 + 1 + 1 by omega]
    simpa using ih
theorem Sl.rune0 {w : World} {b off len cap : Nat} {l : List Rn} (h : Sl w 3 (some ⟨b, off, none⟩) len cap (rcells l)) (k : Nat) (hk : k < l.length) : w.cell? ⟨b, off + k * 3, none⟩ = some (.int .i64 (l[k].1 : Nat)) := by
  have hl := rcells_length l
  obtain ⟨b', off', ha, hc⟩ := h.2.2.2 (by omega)
  cases ha
  rw [hc _ (by omega), rcells_get0 l k hk]
/-- The k-th rune, where it stands. -/
theorem get_rns (l : List UInt8) (k p : Nat) (hk : k < (rns l 0).length) (h : (rns l 0).drop k = rns l p) : p < l.length ∧ (rns l 0)[k] = (p, codeN (l.drop p) (szN (l.drop p)), decide (0 < szN (l.drop p))) := by
  have h1 := List.drop_eq_getElem_cons hk
  rw [h] at h1
  by_cases hp : p < l.length
  · refine ⟨hp, ?_⟩
    rw [rns_step l p hp] at h1
    exact (List.cons.inj h1).1.symm
  · rw [rns_end l p (by omega)] at h1
    cases h1
theorem end_rns (l : List UInt8) (k p : Nat) (hk : (rns l 0).length ≤ k) (hp : p ≤ l.length) (h : (rns l 0).drop k = rns l p) : p = l.length := by
  rw [List.drop_eq_nil_of_le hk] at h
  have := hd_pos l p hp
  rw [← h] at this
  exact this.symm
end Go.Proofs.Ytdphdodjidbngaa

namespace Go.Proofs.Ytdphdodjidbngaa
open Go.RowKit
set_option linter.unusedVariables false
set_option linter.unusedSimpArgs false

theorem nb_take (l y : List UInt8) (n k : Nat) (h : k < n) (hn : n ≤ l.length) : nb (l.take n ++ y) k = nb l k := by
  have h1 : k < (l.take n).length := by rw [List.length_take]; omega
  unfold nb
  rw [List.getD_eq_getElem?_getD, List.getD_eq_getElem?_getD, List.getElem?_append_left h1, List.getElem?_take, if_pos h]
theorem szN_intro (l : List UInt8) (n : Nat) (h1 : ¬ nb l 0 < 128) (hl : leadN (nb l 0) = n) (hn : n ≤ l.length) (hc : ∀ k, k < n → 1 ≤ k → contN l k) (hb : ¬ (2 < n ∧ badD (nb l 0) (nb l 1))) : szN l = n := by
  unfold szN
  rw [if_neg h1, hl, if_neg (by omega), if_pos hc, if_neg hb]
/-- A whole rune is whole whatever follows it. -/
theorem szN_take (l y : List UInt8) (h0 : 0 < l.length) (h : 0 < szN l) : szN (l.take (szN l) ++ y) = szN l ∧ codeN (l.take (szN l) ++ y) (szN l) = codeN l (szN l) := by
  have hle := szN_le l h0
  have hnb := fun k hk => nb_take l y (szN l) k hk hle.1
  have hlen : szN l ≤ (l.take (szN l) ++ y).length := by rw [List.length_append, List.length_take]; omega
  generalize l.take (szN l) ++ y = m at *
  rcases szN_facts l with hz | ⟨hz, h1⟩ | ⟨hz, h1, h2, hl, c1⟩ | ⟨hz, h1, h2, hl, c1, c2, hb⟩ | ⟨hz, h1, h2, hl, c1, c2, c3, hb⟩
  · omega
  · rw [hz] at hnb hlen ⊢
    have e0 := hnb 0 (by omega)
    rw [codeN_1, codeN_1, e0]
    refine ⟨?_, rfl⟩
    unfold szN
    rw [if_pos (by omega)]
  · rw [hz] at hnb hlen ⊢
    have e0 := hnb 0 (by omega)
    have e1 := hnb 1 (by omega)
    rw [codeN_2, codeN_2, e0, e1]
    refine ⟨szN_intro m 2 (by omega) ?_ hlen (fun k hk hk1 => ?_) (by omega), rfl⟩
    · rw [e0]; unfold leadN; rw [if_pos ⟨h1, h2⟩]
    · obtain rfl : k = 1 := by omega
      unfold contN at *; omega
  · rw [hz] at hnb hlen ⊢
    have e0 := hnb 0 (by omega)
    have e1 := hnb 1 (by omega)
    have e2 := hnb 2 (by omega)
    rw [codeN_3, codeN_3, e0, e1, e2]
    refine ⟨szN_intro m 3 (by omega) ?_ hlen (fun k hk hk1 => ?_) (by rw [e0, e1]; exact fun h => hb h.2), rfl⟩
    · rw [e0]; unfold leadN; rw [if_neg (by omega), if_pos ⟨h1, h2⟩]
    · obtain rfl | rfl : k = 1 ∨ k = 2 := by omega
      · unfold contN at *; omega
      · unfold contN at *; omega
  · rw [hz] at hnb hlen ⊢
    have e0 := hnb 0 (by omega)
    have e1 := hnb 1 (by omega)
    have e2 := hnb 2 (by omega)
    have e3 := hnb 3 (by omega)
    rw [codeN_4, codeN_4, e0, e1, e2, e3]
    refine ⟨szN_intro m 4 (by omega) ?_ hlen (fun k hk hk1 => ?_) (by rw [e0, e1]; exact fun h => hb h.2), rfl⟩
    · rw [e0]; unfold leadN; rw [if_neg (by omega), if_neg (by omega), if_pos ⟨h1, h2⟩]
    · obtain rfl | rfl | rfl : k = 1 ∨ k = 2 ∨ k = 3 := by omega
      · unfold contN at *; omega
      · unfold contN at *; omega
      · unfold contN at *; omega
/-- The bytes of one letter. -/
def IsLet (b : List UInt8) : Prop := 0 < b.length ∧ szN b = b.length ∧ LetP (codeN b b.length : Int)
theorem isLet_app (b y : List UInt8) (h : IsLet b) : szN (b ++ y) = b.length ∧ LetP (codeN (b ++ y) (szN (b ++ y)) : Int) ∧ (b ++ y).take (szN (b ++ y)) = b := by
  obtain ⟨h0, h1, h2⟩ := h
  have h3 := szN_take b y h0 (by omega)
  rw [h1, List.take_length] at h3
  rw [h3.1, h3.2]
  exact ⟨rfl, h2, by rw [List.take_left']; rfl⟩
theorem let_bytes (l : List UInt8) (p : Nat) (hp : p < l.length) (h : LetP (codeN (l.drop p) (szN (l.drop p)) : Int)) : IsLet (bytesR l p) := by
  have h1 := let_whole l p h
  have h0 : 0 < (l.drop p).length := by rw [List.length_drop]; omega
  have h2 := szN_take (l.drop p) [] h0 h1
  have h3 := szN_le (l.drop p) h0
  rw [List.append_nil] at h2
  have hl : (bytesR l p).length = szN (l.drop p) := by rw [bytesR, List.length_take]; omega
  refine ⟨by omega, ?_, ?_⟩
  · rw [hl]; exact h2.1
  · rw [hl, bytesR, h2.2]; exact h
def LetW (t : List UInt8) (n : Nat) : Prop := ∃ bs : List (List UInt8), bs ≠ [] ∧ (∀ b ∈ bs, IsLet b) ∧ t = bs.flatten ∧ n = bs.length
def SigW (t : List UInt8) (n : Nat) : Prop := ∃ c : Nat, SigP (c : Int) ∧ t = [UInt8.ofNat c] ∧ n = 1
/-- A word's text, and how many runes it has. -/
def Tx (t : List UInt8) (n : Nat) : Prop := SigW t n ∨ LetW t n
theorem LetW.more {t : List UInt8} {n : Nat} {b : List UInt8} (h : LetW t n) (hb : IsLet b) : LetW (t ++ b) (n + 1) := by
  obtain ⟨bs, h1, h2, h3, h4⟩ := h
  refine ⟨bs ++ [b], by simp, fun x hx => ?_, by rw [h3]; simp, by rw [h4]; simp⟩
  rw [List.mem_append, List.mem_singleton] at hx
  rcases hx with hx | rfl
  · exact h2 x hx
  · exact hb
theorem LetW.one {b : List UInt8} (hb : IsLet b) : LetW b 1 := ⟨[b], by simp, fun x hx => by rw [List.mem_singleton] at hx; subst hx; exact hb, by simp, rfl⟩
theorem rnF_mem (l : List UInt8) : ∀ (f i : Nat), ∀ r ∈ rnF f l i, r.1 < l.length ∧ r.2.1 = codeN (l.drop r.1) (szN (l.drop r.1))
  | 0, i, r, h => by simp [rnF] at h
  | f + 1, i, r, h => by
    rw [rnF] at h
    split at h
    · rename_i hi
      rw [List.mem_cons] at h
      rcases h with rfl | h
      · exact ⟨hi, rfl⟩
      · exact rnF_mem l f _ r h
    · cases h
theorem bytesR_le (l : List UInt8) (p : Nat) (hp : p < l.length) : (bytesR l p).length ≤ 4 := by
  have := (szN_le (l.drop p) (by rw [List.length_drop]; omega)).2
  rw [bytesR, List.length_take]; omega
/-- The words of a text are words. -/
theorem lexF_good (l : List UInt8) : ∀ (rs : List Rn) (ws : List Wd) (run : Bool) (k : Nat), (∀ r ∈ rs, r.1 < l.length ∧ r.2.1 = codeN (l.drop r.1) (szN (l.drop r.1))) →
    (∀ w ∈ ws, (∃ n, Tx w.1 n) ∧ w.1.length ≤ 4 * k) → (run = true → ∃ vs w0 n, ws = vs ++ [w0] ∧ LetW w0.1 n) →
    ∀ w ∈ (lexF l ws run k rs).1, (∃ n, Tx w.1 n) ∧ w.1.length ≤ 4 * (k + rs.length)
  | [], ws, run, k, _, hw, _ => by simpa [lexF] using hw
  | r :: rs, ws, run, k, hr, hw, hrun => by
    have hr0 := hr r (List.mem_cons_self ..)
    have hrs := fun x hx => hr x (List.mem_cons_of_mem _ hx)
    rw [List.length_cons, show k + (rs.length + 1) = (k + 1) + rs.length by omega]
    by_cases h1 : LetP (r.2.1 : Int)
    · rw [lexF_let _ _ _ _ _ _ h1]
      have hL : IsLet (bytesR l r.1) := let_bytes l r.1 hr0.1 (by rw [← hr0.2]; exact h1)
      have hb4 := bytesR_le l r.1 hr0.1
      cases run with
      | true =>
        obtain ⟨vs, w0, n, rfl, hlw⟩ := hrun rfl
        rw [if_pos rfl, addL_snoc]
        refine lexF_good l rs _ true (k + 1) hrs (fun w hwm => ?_) (fun _ => ⟨vs, _, n + 1, rfl, hlw.more hL⟩)
        rw [List.mem_append, List.mem_singleton] at hwm
        rcases hwm with hwm | rfl
        · have := hw w (by simp [hwm])
          exact ⟨this.1, by omega⟩
        · have := hw w0 (by simp)
          exact ⟨⟨n + 1, .inr (hlw.more hL)⟩, by show (w0.1 ++ bytesR l r.1).length ≤ _; rw [List.length_append]; omega⟩
      | false =>
        rw [if_neg (by simp), addL_snoc]
        refine lexF_good l rs _ true (k + 1) hrs (fun w hwm => ?_) (fun _ => ⟨ws, _, 1, rfl, by simpa using LetW.one hL⟩)
        rw [List.mem_append, List.mem_singleton] at hwm
        rcases hwm with hwm | rfl
        · have := hw w hwm
          exact ⟨this.1, by omega⟩
        · exact ⟨⟨1, .inr (by simpa using LetW.one hL)⟩, by show ([] ++ bytesR l r.1).length ≤ _; rw [List.nil_append]; omega⟩
    · by_cases h2 : SigP (r.2.1 : Int)
      · rw [lexF_sig _ _ _ _ _ _ h1 h2]
        refine lexF_good l rs _ false (k + 1) hrs (fun w hwm => ?_) (fun h => absurd h (by simp))
        rw [List.mem_append, List.mem_singleton] at hwm
        rcases hwm with hwm | rfl
        · have := hw w hwm
          exact ⟨this.1, by omega⟩
        · exact ⟨⟨1, .inl ⟨r.2.1, h2, rfl, rfl⟩⟩, by show 1 ≤ _; omega⟩
      · by_cases h3 : r.2.1 = 32
        · rw [lexF_blank _ _ _ _ _ _ h3]
          exact lexF_good l rs _ false (k + 1) hrs (fun w hwm => ⟨(hw w hwm).1, by have := (hw w hwm).2; omega⟩) (fun h => absurd h (by simp))
        · rw [lexF_bad _ _ _ _ _ _ h1 h2 h3]
          intro w hwm
          cases hwm
theorem lexW_good (l : List UInt8) : ∀ w ∈ (lexW l).1, (∃ n, Tx w.1 n) ∧ w.1.length ≤ 800 := by
  unfold lexW
  split
  · intro w hw; cases hw
  · intro w hw
    have h1 := lexF_good l (rns l 0) [] false 0 (rnF_mem l _ _) (fun w h => by cases h) (fun h => absurd h (by simp)) w hw
    have h2 := rns_le l 0
    exact ⟨h1.1, by omega⟩
theorem drop_app {L : List UInt8} {p : Nat} {t rest : List UInt8} (h : L.drop p = t ++ rest) : L.drop (p + t.length) = rest := by
  rw [← List.drop_drop, h, List.drop_left']; rfl
theorem drop_lt {L : List UInt8} {p : Nat} {t : List UInt8} (h : L.drop p = t) (h0 : 0 < t.length) : p < L.length := by
  have : (L.drop p).length = t.length := by rw [h]
  rw [List.length_drop] at this; omega
theorem lexF_lets (L : List UInt8) (ws : List Wd) (k0 : Nat) : ∀ (bs : List (List UInt8)) (u : List UInt8) (k p : Nat) (rest : List UInt8), (∀ b ∈ bs, IsLet b) → L.drop p = bs.flatten ++ rest →
    lexF L (ws ++ [(u, k0)]) true k (rns L p) = lexF L (ws ++ [(u ++ bs.flatten, k0)]) true (k + bs.length) (rns L (p + bs.flatten.length))
  | [], u, k, p, rest, _, _ => by simp
  | b :: bs, u, k, p, rest, hb, hd => by
    have hb0 := hb b (List.mem_cons_self ..)
    rw [List.flatten_cons, List.append_assoc] at hd
    have ha := isLet_app b (bs.flatten ++ rest) hb0
    rw [← hd] at ha
    have hlt : p < L.length := drop_lt hd (by rw [List.length_append]; have := hb0.1; omega)
    have hm : max (szN (L.drop p)) 1 = b.length := by rw [ha.1]; have := hb0.1; omega
    rw [rns_step L p hlt, lexF_let L _ _ _ _ _ ha.2.1, if_pos rfl, addL_snoc, hm]
    have e : bytesR L p = b := ha.2.2
    have ih := lexF_lets L ws k0 bs (u ++ b) (k + 1) (p + b.length) rest (fun x hx => hb x (List.mem_cons_of_mem _ hx)) (drop_app hd)
    simp only [e]
    rw [ih, List.flatten_cons, List.length_append, List.length_cons, List.append_assoc, show k + 1 + bs.length = k + (bs.length + 1) by omega, Nat.add_assoc]
theorem ofNat_lt (c : Nat) (h : c < 128) : (UInt8.ofNat c).toNat = c := by rw [UInt8.toNat_ofNat']; omega
theorem one_byte (c : UInt8) (y : List UInt8) (h : c.toNat < 128) : szN (c :: y) = 1 ∧ codeN (c :: y) 1 = c.toNat := by
  have e : nb (c :: y) 0 = c.toNat := rfl
  refine ⟨?_, by rw [codeN_1, e]⟩
  unfold szN
  rw [if_pos (by omega)]
theorem lexF_word (L : List UInt8) (ws : List Wd) (k p : Nat) (t : List UInt8) (n : Nat) (rest : List UInt8) (hT : Tx t n) (hd : L.drop p = t ++ rest) :
    ∃ run, lexF L ws false k (rns L p) = lexF L (ws ++ [(t, k)]) run (k + n) (rns L (p + t.length)) := by
  rcases hT with ⟨c, hc, rfl, rfl⟩ | ⟨bs, h1, h2, rfl, rfl⟩
  · have hlt : p < L.length := drop_lt hd (by simp)
    have hc7 : c < 128 := by unfold SigP at hc; omega
    have h1 := one_byte (UInt8.ofNat c) rest (by rw [ofNat_lt c hc7]; omega)
    rw [ofNat_lt c hc7, ← List.singleton_append, ← hd] at h1
    refine ⟨false, ?_⟩
    rw [rns_step L p hlt, h1.1, h1.2, lexF_sig L ws false k _ _ (by show ¬ LetP (c : Int); unfold SigP at hc; unfold LetP; omega) hc]
    rfl
  · match bs, h1, h2, hd with
    | b :: bs, _, hb, hd =>
      have hb0 := hb b (List.mem_cons_self ..)
      rw [List.flatten_cons, List.append_assoc] at hd
      have ha := isLet_app b (bs.flatten ++ rest) hb0
      rw [← hd] at ha
      have hlt : p < L.length := drop_lt hd (by rw [List.length_append]; have := hb0.1; omega)
      have hm : max (szN (L.drop p)) 1 = b.length := by rw [ha.1]; have := hb0.1; omega
      refine ⟨true, ?_⟩
      rw [rns_step L p hlt, lexF_let L _ _ _ _ _ ha.2.1, if_neg (by simp), addL_snoc, hm]
      have e : bytesR L p = b := ha.2.2
      have ih := lexF_lets L ws k bs b (k + 1) (p + b.length) rest (fun x hx => hb x (List.mem_cons_of_mem _ hx)) (drop_app hd)
      simp only [e, List.nil_append]
      rw [ih, List.flatten_cons, List.length_append, List.length_cons, show k + 1 + bs.length = k + (bs.length + 1) by omega, Nat.add_assoc]
/-- Words, each with a blank ahead. -/
def jn : List (List UInt8) → List UInt8
  | [] => []
  | t :: ts => 32 :: (t ++ jn ts)
theorem jn_app : ∀ (a b : List (List UInt8)), jn (a ++ b) = jn a ++ jn b
  | [], b => rfl
  | t :: a, b => by rw [List.cons_append, jn, jn, jn_app a b]; simp
theorem jn_snoc (a : List (List UInt8)) (t : List UInt8) : jn (a ++ [t]) = jn a ++ 32 :: t := by rw [jn_app]; simp [jn]
/-- Words with their places. -/
def placed : Nat → List (List UInt8 × Nat) → List Wd
  | _, [] => []
  | k, t :: ts => (t.1, k) :: placed (k + t.2 + 1) ts
theorem lexF_join (L : List UInt8) : ∀ (ts : List (List UInt8 × Nat)) (ws : List Wd) (k p : Nat) (t : List UInt8) (n : Nat), Tx t n → (∀ x ∈ ts, Tx x.1 x.2) → L.drop p = t ++ jn (ts.map (·.1)) →
    lexF L ws false k (rns L p) = (ws ++ (t, k) :: placed (k + n + 1) ts, 0, 0)
  | [], ws, k, p, t, n, hT, _, hd => by
    obtain ⟨run, h⟩ := lexF_word L ws k p t n _ hT hd
    have h2 := drop_app hd
    simp only [List.map_nil, jn] at h2
    rw [h, rns_end L _ (by simpa using h2)]
    rfl
  | (t2, n2) :: ts, ws, k, p, t, n, hT, hTs, hd => by
    obtain ⟨run, h⟩ := lexF_word L ws k p t n _ hT hd
    have h2 := drop_app hd
    simp only [List.map_cons, jn] at h2
    have hlt : p + t.length < L.length := drop_lt h2 (by simp)
    have h3 := one_byte 32 (t2 ++ jn (ts.map (·.1))) (by decide)
    rw [← h2] at h3
    have h4 : L.drop (p + t.length + 1) = t2 ++ jn (ts.map (·.1)) := drop_app (t := [32]) h2
    rw [h, rns_step L _ hlt, h3.1, h3.2, lexF_blank L _ _ _ _ _ rfl, show max 1 1 = 1 from rfl,
      lexF_join L ts _ (k + n + 1) _ t2 n2 (hTs _ (List.mem_cons_self ..)) (fun x hx => hTs x (List.mem_cons_of_mem _ hx)) h4]
    simp [placed]
/-- How many runes a word has. -/
theorem rns_lets (L : List UInt8) : ∀ (bs : List (List UInt8)) (p : Nat), (∀ b ∈ bs, IsLet b) → L.drop p = bs.flatten → (rns L p).length = bs.length
  | [], p, _, hd => by
    rw [rns_end L p (by simpa using hd)]; rfl
  | b :: bs, p, hb, hd => by
    have hb0 := hb b (List.mem_cons_self ..)
    rw [List.flatten_cons] at hd
    have ha := isLet_app b bs.flatten hb0
    rw [← hd] at ha
    have hlt : p < L.length := drop_lt hd (by rw [List.length_append]; have := hb0.1; omega)
    have hm : max (szN (L.drop p)) 1 = b.length := by rw [ha.1]; have := hb0.1; omega
    rw [rns_step L p hlt, hm, List.length_cons, rns_lets L bs (p + b.length) (fun x hx => hb x (List.mem_cons_of_mem _ hx)) (drop_app hd), List.length_cons]
theorem Tx.runes {t : List UInt8} {n : Nat} (h : Tx t n) : (rns t 0).length = n := by
  rcases h with ⟨c, hc, rfl, rfl⟩ | ⟨bs, h1, h2, rfl, rfl⟩
  · have hc7 : c < 128 := by unfold SigP at hc; omega
    have h1 := one_byte (UInt8.ofNat c) [] (by rw [ofNat_lt c hc7]; omega)
    rw [rns_step [UInt8.ofNat c] 0 (by simp), List.drop_zero, h1.1, rns_end _ _ (by simp)]
    rfl
  · exact rns_lets _ bs 0 h2 rfl
/-- The whole: what was joined is the words at their places, unless it is too long. -/
theorem lexW_join (ts : List (List UInt8 × Nat)) (hT : ∀ x ∈ ts, Tx x.1 x.2) : lexW ((jn (ts.map (·.1))).drop 1) = if 200 < ((jn (ts.map (·.1))).drop 1).length then ([], 0, 4) else (placed 0 ts, 0, 0) := by
  rw [lexW]
  split
  · rfl
  · match ts, hT with
    | [], _ => rfl
    | (t, n) :: ts, hT =>
      have := lexF_join ((jn (((t, n) :: ts).map (·.1))).drop 1) ts [] 0 0 t n (hT _ (List.mem_cons_self ..)) (fun x hx => hT x (List.mem_cons_of_mem _ hx)) (by simp [jn])
      rw [this]
      simp [placed]
end Go.Proofs.Ytdphdodjidbngaa

namespace Go.Proofs.Ytdphdodjidbngaa
open Go.RowKit
set_option linter.unusedVariables false
set_option linter.unusedSimpArgs false

theorem own_iterAt {w : World} {base e s n k : Nat} {v : Value} {xs : List Value} {t : ByteArray} {pos : Nat} (h : w.ownsRow base e s v n xs) (hk : k < base) : (w.iterAt k t pos).ownsRow base e s v n xs :=
  own_block h fun g _ hg ho => (Lib.iterAt_other w k g t pos (by omega)).trans ho
end Go.Proofs.Ytdphdodjidbngaa

namespace Go.Proofs.Ytdphdodjidbngaa
open Go.RowKit
set_option linter.unusedVariables false
set_option linter.unusedSimpArgs false

theorem conv_rune (c : Int) (w : World) : (convert 21 9 (.int .i32 c)).run Try.prog w = .ok (.string (Utf8.encode c)) w := by
  simp [convert, run_underlying Try.underlying21, run_underlying Try.underlying9, go_sem, Conv.intToString]
theorem enc_low (c : Nat) (h : c < 128) : Utf8.encode (c : Int) = str [UInt8.ofNat c] := by
  unfold Utf8.encode
  have hv : Utf8.valid (c : Int) = true := by simp [Utf8.valid]; omega
  rw [hv]
  simp only [if_true, Int.toNat_natCast]
  rw [if_pos h]
  rfl
theorem iterPos_of {w : World} {k pos : Nat} {s : ByteArray} (h : w.heap[k]? = some (.stringIter s pos)) : w.iterPos k = pos := by simp [World.iterPos, h]
theorem info_word : (Try.prog.info? 154).map (fun i => (i.zero, i.size, i.bytes)) = some (some (.agg #[.string ⟨#[]⟩, .int .i64 0]), 2, 24) := by kernel_rfl
theorem addL_len : ∀ (ws : List Wd) (t : List UInt8), (addL ws t).length = ws.length
  | [], t => rfl
  | [w], t => rfl
  | w :: v :: ws, t => by
    have := addL_len (v :: ws) t
    simp only [addL, List.length_cons] at this ⊢
    omega

set_option maxRecDepth 20000 in
set_option maxHeartbeats 8000000 in
theorem words_is (l : List UInt8) (hl : l.length ≤ 1000) (W : World) : Calls Try.prog 50 #[.string (str l)] W fun e w' => ∃ A c, e = .returned (.tuple #[.slice A (lexW l).1.length c, .int .i64 ((lexW l).2.1 : Nat), .int .i64 ((lexW l).2.2 : Nat)]) ∧ w'.ownsRow W.heap.size 154 2 (.slice A (lexW l).1.length c) (lexW l).1.length (wcells (lexW l).1) ∧ Below W.heap.size W w' := by
  have HSZ := hid (str_size l)
  by_cases hlong : 200 < l.length
  · have h2 : 200 < ((str l).size : Int) := by rw [HSZ.out]; omega
    have hW : Hid (lexW l = ([], 0, 4)) := hid (by rw [lexW, if_pos hlong])
    clear hlong
    go_enter Try.func50, Try.ntmps50
    go_wp2
    refine bodyPost_ret (v := .tuple #[.slice none 0 0, .int .i64 0, .int .i64 4]) (by simp [results, Try.results50, go_sem]) rfl ?_
    rw [hW.out]
    exact ⟨none, 0, rfl, World.ownsRow_nil _ _ _ _, Below.refl _ _⟩
  · have h2 : ((str l).size : Int) ≤ 200 := by rw [HSZ.out]; omega
    have hl2 : l.length ≤ 200 := by omega
    have HF : Hid (lexF l [] false 0 (rns l 0) = lexW l) := hid (by rw [lexW, if_neg hlong])
    generalize lexW l = F at *
    clear hlong
    go_enter Try.func50, Try.ntmps50
    go_wp2_with fail
    go_loopw [5, 6, 7] (fun v i r wr => ∃ (k p : Nat) (ws : List Wd) (run : Bool), i = .int .i64 (k : Int) ∧ r = .bool run ∧ p ≤ l.length ∧ k ≤ p ∧ ws.length ≤ k ∧ Hid (run = true → 0 < ws.length) ∧ Hid (lexF l ws run k (rns l p) = F) ∧ Hid (∀ w ∈ ws, w.1.length ≤ 4 * k) ∧ Hid (wr.heap[W.heap.size]? = some (.stringIter (str l) p)) ∧ Hid (wr.ownsRow (W.heap.size + 1) 154 2 v ws.length (wcells ws)) ∧ Hid (Below W.heap.size W wr)) (fun _ _ _ wr => l.length - wr.iterPos W.heap.size)
    case atStart => exact ⟨0, 0, [], false, rfl, rfl, by omega, Nat.le_refl _, Nat.le_refl _, (fun h => absurd h (by decide)), HF.out, (fun w h => absurd h (List.not_mem_nil)), World.iter_heap _ _ _, World.ownsRow_nil _ _ _ _, (Below.refl _ _).alloc (Nat.le_refl _) _⟩
    case round =>
      obtain ⟨k, p, ws, run, rfl, rfl, hp, hkp, hwk, HRU, HX, HSM, HIT, HO, HB⟩ := hrel
      by_cases hpl : p < l.length
      · have hdc : Utf8.decode (str l) p = (codeN (l.drop p) (szN (l.drop p)), max (szN (l.drop p)) 1) := by
          rw [decode_drop, dec_sz _ (by rw [List.length_drop]; omega)]
        have hnx : ∀ ty, (Instr.next (.pointer (some ⟨W.heap.size, 0, none⟩)) true ty).run Try.prog wr = .ok (.tuple #[.bool true, .int .i64 (p : Int), .int .i32 ((codeN (l.drop p) (szN (l.drop p)) : Nat) : Int)]) (wr.iterAt W.heap.size (str l) (p + max (szN (l.drop p)) 1)) := fun ty => by
          rw [Lib.run_next_any_at wr W.heap.size (str l) p ty HIT.out (by rw [str_size]; exact hpl), hdc]
        have hwd : 1 ≤ max (szN (l.drop p)) 1 := szN_1 _
        have hpm := step_le l p hpl
        have HST := hid (rns_step l p hpl)
        have HCR : Hid (LetP ((codeN (l.drop p) (szN (l.drop p)) : Nat) : Int) → ∀ w, (convert 21 9 (.int .i32 ((codeN (l.drop p) (szN (l.drop p)) : Nat) : Int))).run Try.prog w = .ok (.string (str (bytesR l p))) w) := hid (fun h w => by
          rw [conv_rune, enc_sz _ (by rw [List.length_drop]; omega) (let_whole l p h)]
          rfl)
        have hbr : (bytesR l p).length ≤ 4 := by
          have := (szN_le (l.drop p) (by rw [List.length_drop]; omega)).2
          rw [bytesR, List.length_take]; omega
        clear hdc
        generalize max (szN (l.drop p)) 1 = mm at *
        generalize codeN (l.drop p) (szN (l.drop p)) = cc at *
        have HIT0 := hid (iterPos_of HIT.out)
        have KK : (wr.iterAt W.heap.size (str l) (p + mm)).heap[W.heap.size]? = some (.stringIter (str l) (p + mm)) ∧ (wr.iterAt W.heap.size (str l) (p + mm)).ownsRow (W.heap.size + 1) 154 2 u5 ws.length (wcells ws) ∧ Below W.heap.size W (wr.iterAt W.heap.size (str l) (p + mm)) :=
          ⟨Lib.iterAt_heap _ _ _ _ _ HIT.out, own_iterAt HO.out (by omega), Lib.below_iterAt HB.out (Nat.le_refl _) _ _⟩
        have HKK := hid KK
        clear KK
        go_upto_region 8 with (fail)
        have KK := HKK.out
        clear HKK HIT HO HB hnx
        refine at_world (fun w => w.heap[W.heap.size]? = some (.stringIter (str l) (p + mm)) ∧ w.ownsRow (W.heap.size + 1) 154 2 u5 ws.length (wcells ws) ∧ Below W.heap.size W w) KK ?_
        clear KK
        rintro w2 ⟨IT, ho, hb⟩
        have HIT := hid IT
        have HO := hid ho
        have HB := hid hb
        have HZ := hid (show W.heap.size + 1 ≤ w2.heap.size by have := lt_of_block IT; omega)
        clear IT ho hb
        have HLE := hid (fun W => letter_is (cc : Int) W)
        have HSG := hid (fun W => sign_is (cc : Int) W)
        by_cases hlet : LetP (cc : Int)
        · rw [decide_eq_true hlet] at HLE
          have hcv := HCR.out hlet
          have HX0 := hid (show lexF l (addL (if run = true then ws else ws ++ [([], k)]) (bytesR l p)) true (k + 1) (rns l (p + mm)) = F by rw [← HX.out, HST.out, lexF_let _ _ _ _ _ _ hlet])
          have hbs : (str (bytesR l p)).size ≤ 4 := by rw [str_size]; exact hbr
          clear HCR hlet HST HSG
          generalize bytesR l p = br at *
          cases run with
          | true =>
            obtain ⟨vs, w0, hws⟩ : ∃ vs w0, ws = vs ++ [w0] := by
              rcases List.eq_nil_or_concat ws with h | ⟨L, b, h⟩
              · have := HRU.out rfl
                rw [h] at this
                exact absurd this (by simp)
              · exact ⟨L, b, by simpa using h⟩
            subst hws
            have HX2 := hid (show lexF l (addL (vs ++ [w0]) br) true (k + 1) (rns l (p + mm)) = F from HX0.out)
            have HSB : Hid (∀ w ∈ addL (vs ++ [w0]) br, w.1.length ≤ 4 * (k + 1)) := hid (fun w hw => by
              rw [addL_snoc, List.mem_append, List.mem_singleton] at hw
              rcases hw with hw | rfl
              · have := HSM.out w (by simp [hw]); omega
              · have := HSM.out w0 (by simp)
                show (w0.1 ++ br).length ≤ _
                rw [List.length_append]; omega)
            have hws0 : (str w0.1).size ≤ 800 := by rw [str_size]; have := HSM.out w0 (by simp); omega
            have hsum : (str w0.1).size + (str br).size ≤ 9223372036854775807 := by omega
            have hvk : vs.length + 1 ≤ k := by rw [List.length_append, List.length_singleton] at hwk; exact hwk
            clear HX0 HRU hwk
            go_upto_region 13 with (go_at_call 74; refine (HLE.out _).mono ?_; rintro e w' ⟨rfl, rfl⟩)
            clear HLE
            obtain ⟨g, cap, hv, hgb, hnc, hcm, hcl, hst, hglt⟩ := own_open HO.out (by rw [List.length_append, List.length_singleton]; omega) (by omega)
            obtain ⟨cA, cF⟩ := hcl (vs.length * 2) (by rw [wcells_length, List.length_append, List.length_singleton]; omega)
            have hc9 := (wcells_get (vs ++ [w0]) vs.length (by rw [List.length_append, List.length_singleton]; omega)).1
            rw [List.getElem_concat_length rfl, List.getElem?_eq_getElem (by rw [wcells_length, List.length_append, List.length_singleton]; omega)] at hc9
            rw [Option.some.inj hc9] at cA
            have hS := hst (vs.length * 2) (.string (str (w0.1 ++ br)))
            rw [wcells_add vs w0 br] at hS
            have HS9 := hid hS
            have hNE : g ≠ W.heap.size := by omega
            have HI9 := hid ((Below.heap_setCell w2 ⟨g, vs.length * 2, none⟩ (.string (str w0.1 ++ str br)) W.heap.size (by simpa using hNE.symm)).trans HIT.out)
            have HB9 := hid (HB.out.setCell (show W.heap.size ≤ (⟨g, vs.length * 2, none⟩ : Addr).block by simp; omega) (.string (str w0.1 ++ str br)))
            clear hS hst hcl hc9 hNE
            have hv2 : u5 = .slice (some ⟨g, 0, none⟩) (vs.length + 1) cap := by rw [hv, List.length_append, List.length_singleton]
            subst hv2
            have hn1 : vs.length + 1 ≤ 201 := by rw [List.length_append, List.length_singleton] at hnc; omega
            clear hv
            have HA9 := hid (addL_len (vs ++ [w0]) br)
            have hcnt : (vs ++ [w0]).length = vs.length + 1 := by rw [List.length_append, List.length_singleton]
            have HCN := hid hcnt
            clear hcnt hnc
            go_wp2
            go_roundw
            case rel => exact ⟨k + 1, p + mm, addL (vs ++ [w0]) br, true, by go_num, rfl, hpm, by omega, by rw [HA9.out, HCN.out]; omega, (fun _ => by rw [HA9.out, HCN.out]; omega), HX2.out, HSB.out, HI9.out, by rw [Hid, HA9.out, str_app]; rw [Hid] at HS9; simpa [HCN.out] using HS9, HB9.out⟩
            case measure => rw [iterPos_of HI9.out, HIT0.out]; omega
          | false =>
            have HX2 := hid (show lexF l (addL (ws ++ [([], k)]) br) true (k + 1) (rns l (p + mm)) = F from HX0.out)
            clear HX0 HRU
            go_wp2_with (first
              | (go_at_call 74; refine (HLE.out _).mono ?_; rintro e w' ⟨rfl, rfl⟩)
              | (at_builtin; refine wpList_append_1 (W := w2) rfl (.tmp 24) (.tmp 27) 97 rfl (W.heap.size + 1) 154 Try.underlying97 info_word rfl (by omega) rfl HO.out rfl rfl (by simp; first | exact ⟨rfl, rfl⟩ | rfl) ?c1 ?c2 HZ.out (Below.refl _ _) ?_))
            case c1 => unfold maxLen; omega
            case c2 => omega
            intro v' w' g2 g3 g4
            have HO3 : Hid (w'.ownsRow (W.heap.size + 1) 154 2 v' (ws ++ [(([] : List UInt8), k)]).length (wcells (ws ++ [([], k)]))) := hid (by rw [List.length_append, wcells_append]; exact g2)
            have HI3 := hid ((g3.block W.heap.size (by omega)).trans HIT.out)
            have HB3 := hid (HB.out.trans (g3.mono (Nat.le_succ _)))
            clear g2 g3 g4 HIT HO HB HZ
            have HSM2 : Hid (∀ w ∈ ws ++ [(([] : List UInt8), k)], w.1.length ≤ 4 * k) := hid (fun w hw => by
              rw [List.mem_append, List.mem_singleton] at hw
              rcases hw with hw | rfl
              · exact HSM.out w hw
              · show 0 ≤ 4 * k; omega)
            clear HSM
            obtain ⟨w0, hw0⟩ : ∃ w0 : Wd, w0 = (([] : List UInt8), k) := ⟨_, rfl⟩
            rw [← hw0] at HO3 HSM2 HX2
            obtain ⟨vs, hvs⟩ : ∃ vs : List Wd, vs = ws := ⟨_, rfl⟩
            rw [← hvs] at HO3 HSM2 HX2 hwk
            have HSB : Hid (∀ w ∈ addL (vs ++ [w0]) br, w.1.length ≤ 4 * (k + 1)) := hid (fun w hw => by
              rw [addL_snoc, List.mem_append, List.mem_singleton] at hw
              rcases hw with hw | rfl
              · have := HSM2.out w (by simp [hw]); omega
              · have := HSM2.out w0 (by simp)
                show (w0.1 ++ br).length ≤ _
                rw [List.length_append]; omega)
            have hws0 : (str w0.1).size ≤ 800 := by rw [str_size]; have := HSM2.out w0 (by simp); omega
            have hsum : (str w0.1).size + (str br).size ≤ 9223372036854775807 := by omega
            have hvk : vs.length ≤ k := hwk
            clear HLE hw0 hvs hwk
            go_upto_region 13 with (fail)
            obtain ⟨g, cap, hv, hgb, hnc, hcm, hcl, hst, hglt⟩ := own_open HO3.out (by rw [List.length_append, List.length_singleton]; omega) (by omega)
            obtain ⟨cA, cF⟩ := hcl (vs.length * 2) (by rw [wcells_length, List.length_append, List.length_singleton]; omega)
            have hc9 := (wcells_get (vs ++ [w0]) vs.length (by rw [List.length_append, List.length_singleton]; omega)).1
            rw [List.getElem_concat_length rfl, List.getElem?_eq_getElem (by rw [wcells_length, List.length_append, List.length_singleton]; omega)] at hc9
            rw [Option.some.inj hc9] at cA
            have hS := hst (vs.length * 2) (.string (str (w0.1 ++ br)))
            rw [wcells_add vs w0 br] at hS
            have HS9 := hid hS
            have hNE : g ≠ W.heap.size := by omega
            have HI9 := hid ((Below.heap_setCell w' ⟨g, vs.length * 2, none⟩ (.string (str w0.1 ++ str br)) W.heap.size (by simpa using hNE.symm)).trans HI3.out)
            have HB9 := hid (HB3.out.setCell (show W.heap.size ≤ (⟨g, vs.length * 2, none⟩ : Addr).block by simp; omega) (.string (str w0.1 ++ str br)))
            clear hS hst hcl hc9 hNE
            have hv2 : v' = .slice (some ⟨g, 0, none⟩) (vs.length + 1) cap := by rw [hv, List.length_append, List.length_singleton]
            subst hv2
            have hn1 : vs.length + 1 ≤ 201 := by rw [List.length_append, List.length_singleton] at hnc; omega
            clear hv
            have HA9 := hid (addL_len (vs ++ [w0]) br)
            have hcnt : (vs ++ [w0]).length = vs.length + 1 := by rw [List.length_append, List.length_singleton]
            have HCN := hid hcnt
            clear hcnt hnc
            go_wp2
            go_roundw
            case rel => exact ⟨k + 1, p + mm, addL (vs ++ [w0]) br, true, by go_num, rfl, hpm, by omega, by rw [HA9.out, HCN.out]; omega, (fun _ => by rw [HA9.out, HCN.out]; omega), HX2.out, HSB.out, HI9.out, by rw [Hid, HA9.out, str_app]; rw [Hid] at HS9; simpa [HCN.out] using HS9, HB9.out⟩
            case measure => rw [iterPos_of HI9.out, HIT0.out]; omega
        · rw [decide_eq_false hlet] at HLE
          by_cases hsg : SigP (cc : Int)
          · have HX2 := hid (show lexF l (ws ++ [([UInt8.ofNat cc], k)]) false (k + 1) (rns l (p + mm)) = F by rw [← HX.out, HST.out, lexF_sig _ _ _ _ _ _ hlet hsg])
            rw [decide_eq_true hsg] at HSG
            have hcv : ∀ w, (convert 21 9 (.int .i32 (cc : Int))).run Try.prog w = .ok (.string (str [UInt8.ofNat cc])) w := fun w => by rw [conv_rune, enc_low cc (by unfold SigP at hsg; omega)]
            have HS2 : Hid (∀ w ∈ ws ++ [([UInt8.ofNat cc], k)], w.1.length ≤ 4 * (k + 1)) := hid (fun w hw => by
              rw [List.mem_append, List.mem_singleton] at hw
              rcases hw with hw | rfl
              · have := HSM.out w hw; omega
              · show 1 ≤ 4 * (k + 1); omega)
            clear HCR hlet hsg HST
            generalize UInt8.ofNat cc = bb at *
            go_wp2_with (first
              | (go_at_call 74; refine (HLE.out _).mono ?_; rintro e w' ⟨rfl, rfl⟩)
              | (go_at_call 75; refine (HSG.out _).mono ?_; rintro e w' ⟨rfl, rfl⟩)
              | (at_builtin; refine wpList_append_1 (W := w2) rfl (.tmp 44) (.tmp 49) 97 rfl (W.heap.size + 1) 154 Try.underlying97 info_word rfl (by omega) rfl HO.out rfl rfl (by simp; first | exact ⟨rfl, rfl⟩ | rfl) ?c1 ?c2 HZ.out (Below.refl _ _) ?_))
            case c1 => unfold maxLen; omega
            case c2 => omega
            intro v' w' g2 g3 g4
            have HO3 := hid g2
            have HI3 := hid ((g3.block W.heap.size (by omega)).trans HIT.out)
            have HB3 := hid (HB.out.trans (g3.mono (Nat.le_succ _)))
            clear g2 g3 g4
            go_wp2
            go_roundw
            case rel => exact ⟨k + 1, p + mm, ws ++ [([bb], k)], false, by go_num, rfl, hpm, by omega, by rw [List.length_append, List.length_singleton]; omega, (fun h => absurd h (by decide)), HX2.out, HS2.out, HI3.out, by rw [Hid, List.length_append, wcells_append]; exact HO3.out, HB3.out⟩
            case measure => rw [iterPos_of HI3.out, HIT0.out]; omega
          · rw [decide_eq_false hsg] at HSG
            by_cases h32 : cc = 32
            · have HX2 := hid (show lexF l ws false (k + 1) (rns l (p + mm)) = F by rw [← HX.out, HST.out, lexF_blank _ _ _ _ _ _ h32])
              have HS2 : Hid (∀ w ∈ ws, w.1.length ≤ 4 * (k + 1)) := hid (fun w hw => by have := HSM.out w hw; omega)
              subst h32
              clear HCR hlet hsg HST
              go_wp2_with (first
                | (go_at_call 74; refine (HLE.out _).mono ?_; rintro e w' ⟨rfl, rfl⟩)
                | (go_at_call 75; refine (HSG.out _).mono ?_; rintro e w' ⟨rfl, rfl⟩))
              go_roundw
              case rel => exact ⟨k + 1, p + mm, ws, false, by go_num, rfl, hpm, by omega, by omega, (fun h => absurd h (by decide)), HX2.out, HS2.out, HIT.out, HO.out, HB.out⟩
              case measure => rw [iterPos_of HIT.out, HIT0.out]; omega
            · have HX2 := hid (show F = ([], k, 3) by rw [← HX.out, HST.out, lexF_bad _ _ _ _ _ _ hlet hsg h32])
              have e32 : ((cc : Int) == 32) = false := by rw [beq_eq_false_iff_ne]; omega
              clear HCR hlet hsg HST h32
              go_wp2_with (first
                | (go_at_call 74; refine (HLE.out _).mono ?_; rintro e w' ⟨rfl, rfl⟩)
                | (go_at_call 75; refine (HSG.out _).mono ?_; rintro e w' ⟨rfl, rfl⟩))
              refine bodyPost_ret (v := .tuple #[.slice none 0 0, .int .i64 (k : Int), .int .i64 3]) (by simp [results, Try.results50, go_sem]) rfl ?_
              rw [HX2.out]
              exact ⟨none, 0, rfl, World.ownsRow_nil _ _ _ _, HB.out⟩
      · have hnx : ∀ ty, (Instr.next (.pointer (some ⟨W.heap.size, 0, none⟩)) true ty).run Try.prog wr = .ok (.tuple #[.bool false]) wr := fun ty => Lib.run_next_end_at wr W.heap.size (str l) p ty HIT.out (by rw [str_size]; omega)
        have HF2 : Hid (F = (ws, 0, 0)) := hid (by rw [← HX.out, rns_end l p (by omega)]; rfl)
        obtain ⟨A9, c9, rfl, _⟩ := Sl.of_own HO.out
        go_wp2
        refine bodyPost_ret (v := .tuple #[.slice A9 ws.length c9, .int .i64 0, .int .i64 0]) (by simp [results, Try.results50, go_sem]) rfl ?_
        rw [HF2.out]
        exact ⟨A9, c9, rfl, own_mono HO.out (by omega), HB.out⟩
end Go.Proofs.Ytdphdodjidbngaa

namespace Go.Proofs.Ytdphdodjidbngaa
open Go.RowKit
set_option linter.unusedVariables false
set_option linter.unusedSimpArgs false

theorem lexF_len (l : List UInt8) : ∀ (rs : List Rn) (ws : List Wd) (run : Bool) (k : Nat), (lexF l ws run k rs).1.length ≤ ws.length + rs.length
  | [], ws, run, k => Nat.le_refl _
  | r :: rs, ws, run, k => by
    rw [lexF]
    split
    · refine Nat.le_trans (lexF_len l rs _ _ _) ?_
      rw [addL_len, List.length_cons]
      split
      · omega
      · rw [List.length_append, List.length_singleton]; omega
    · split
      · refine Nat.le_trans (lexF_len l rs _ _ _) ?_
        rw [List.length_append, List.length_singleton, List.length_cons]; omega
      · split
        · refine Nat.le_trans (lexF_len l rs _ _ _) ?_
          rw [List.length_cons]; omega
        · simp
theorem Sl.word {w : World} {b off len cap : Nat} {l : List Wd} (h : Sl w 2 (some ⟨b, off, none⟩) len cap (wcells l)) (k : Nat) (hk : k < l.length) :
    w.cell? ⟨b, off + k * 2, none⟩ = some (.string (str l[k].1)) ∧ w.cell? ⟨b, off + k * 2 + 1, none⟩ = some (.int .i64 (l[k].2 : Nat)) := by
  have hl := wcells_length l
  obtain ⟨b', off', ha, hc⟩ := h.2.2.2 (by omega)
  cases ha
  obtain ⟨g1, g2⟩ := wcells_get l k hk
  exact ⟨by rw [hc _ (by omega), g1], by rw [Nat.add_assoc, hc _ (by omega), g2]⟩

theorem ex_w1 : lexW [103, 112, 117, 38, 33, 98, 50] = ([([103, 112, 117], 0), ([38], 3), ([33], 4), ([98, 50], 5)], 0, 0) := by kernel_rfl
theorem ex_w2 : lexW [97, 43] = ([], 1, 3) := by kernel_rfl
theorem s_w1 : str [103, 112, 117, 38, 33, 98, 50] = ⟨#[103, 112, 117, 38, 33, 98, 50]⟩ := rfl
theorem s_w2 : str [97, 43] = ⟨#[97, 43]⟩ := rfl
theorem wd_1 (W : World) : Calls Try.prog 50 #[.string ⟨#[103, 112, 117, 38, 33, 98, 50]⟩] W fun e w' => ∃ g c, e = .returned (.tuple #[.slice (some ⟨g, 0, none⟩) 4 c, .int .i64 0, .int .i64 0]) ∧ w'.cell? ⟨g, 6, none⟩ = some (.string ⟨#[98, 50]⟩) ∧ w'.cell? ⟨g, 7, none⟩ = some (.int .i64 5) ∧ Below W.heap.size W w' := by
  have h := words_is [103, 112, 117, 38, 33, 98, 50] (by simp) W
  rw [ex_w1, s_w1] at h
  refine h.mono ?_
  rintro e w' ⟨A, c, rfl, ho, hb⟩
  obtain ⟨g, cap, hv, hgb, hnc, hcm, hcl, hst, hglt⟩ := own_open ho (by simp) (by omega)
  cases hv
  exact ⟨g, c, rfl, (hcl 6 (by rw [wcells_length]; simp)).1, (hcl 7 (by rw [wcells_length]; simp)).1, hb⟩
theorem wd_2 (W : World) : Calls Try.prog 50 #[.string ⟨#[97, 43]⟩] W fun e w' => ∃ A c, e = .returned (.tuple #[.slice A 0 c, .int .i64 1, .int .i64 3]) ∧ Below W.heap.size W w' := by
  have h := words_is [97, 43] (by simp) W
  rw [ex_w2, s_w2] at h
  refine h.mono ?_
  rintro e w' ⟨A, c, rfl, ho, hb⟩
  exact ⟨A, c, rfl, hb⟩

end Go.Proofs.Ytdphdodjidbngaa
