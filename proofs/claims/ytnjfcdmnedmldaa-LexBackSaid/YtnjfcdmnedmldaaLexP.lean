/- Words put one behind the other: plain. -/
import Derived.Test.YtnjfcdmnedmldaaLexD
namespace Go.Proofs.Ytnjfcdmnedmldaa
open Go.RowKit
set_option linter.unusedVariables false
set_option linter.unusedSimpArgs false

theorem nb_take (l y : List UInt8) (n k : Nat) (h : k < n) (hn : n ≤ l.length) : nb (l.take n ++ y) k = nb l k := by
  have h1 : k < (l.take n).length := by rw [List.length_take]; omega
  unfold nb
  rw [List.getD_eq_getElem?_getD, List.getD_eq_getElem?_getD, List.getElem?_append_left h1, List.getElem?_take, if_pos h]
theorem szN_intro (l : List UInt8) (n : Nat) (h1 : ¬ nb l 0 < 128) (hl : leadN (nb l 0) = n) (hn : n ≤ l.length) (hc : ∀ k, k < n → 1 ≤ k → contN l k) (hb : ¬ (2 < n ∧ badD (nb l 0) (nb l 1))) : szN l = n := by
  unfold szN
  rw [if_neg h1, hl, if_neg (by omega), if_pos hc, if_neg hb]
/-- A whole rune is whole whatever follows it. -/
theorem szN_take (l y : List UInt8) (h0 : 0 < l.length) (h : 0 < szN l) : szN (l.take (szN l) ++ y) = szN l ∧ codeN (l.take (szN l) ++ y) (szN l) = codeN l (szN l) := by
  have hle := szN_le l h0
  have hnb := fun k hk => nb_take l y (szN l) k hk hle.1
  have hlen : szN l ≤ (l.take (szN l) ++ y).length := by rw [List.length_append, List.length_take]; omega
  generalize l.take (szN l) ++ y = m at *
  rcases szN_facts l with hz | ⟨hz, h1⟩ | ⟨hz, h1, h2, hl, c1⟩ | ⟨hz, h1, h2, hl, c1, c2, hb⟩ | ⟨hz, h1, h2, hl, c1, c2, c3, hb⟩
  · omega
  · rw [hz] at hnb hlen ⊢
    have e0 := hnb 0 (by omega)
    rw [codeN_1, codeN_1, e0]
    refine ⟨?_, rfl⟩
    unfold szN
    rw [if_pos (by omega)]
  · rw [hz] at hnb hlen ⊢
    have e0 := hnb 0 (by omega)
    have e1 := hnb 1 (by omega)
    rw [codeN_2, codeN_2, e0, e1]
    refine ⟨szN_intro m 2 (by omega) ?_ hlen (fun k hk hk1 => ?_) (by omega), rfl⟩
    · rw [e0]; unfold leadN; rw [if_pos ⟨h1, h2⟩]
    · obtain rfl : k = 1 := by omega
      unfold contN at *; omega
  · rw [hz] at hnb hlen ⊢
    have e0 := hnb 0 (by omega)
    have e1 := hnb 1 (by omega)
    have e2 := hnb 2 (by omega)
    rw [codeN_3, codeN_3, e0, e1, e2]
    refine ⟨szN_intro m 3 (by omega) ?_ hlen (fun k hk hk1 => ?_) (by rw [e0, e1]; exact fun h => hb h.2), rfl⟩
    · rw [e0]; unfold leadN; rw [if_neg (by omega), if_pos ⟨h1, h2⟩]
    · obtain rfl | rfl : k = 1 ∨ k = 2 := by omega
      · unfold contN at *; omega
      · unfold contN at *; omega
  · rw [hz] at hnb hlen ⊢
    have e0 := hnb 0 (by omega)
    have e1 := hnb 1 (by omega)
    have e2 := hnb 2 (by omega)
    have e3 := hnb 3 (by omega)
    rw [codeN_4, codeN_4, e0, e1, e2, e3]
    refine ⟨szN_intro m 4 (by omega) ?_ hlen (fun k hk hk1 => ?_) (by rw [e0, e1]; exact fun h => hb h.2), rfl⟩
    · rw [e0]; unfold leadN; rw [if_neg (by omega), if_neg (by omega), if_pos ⟨h1, h2⟩]
    · obtain rfl | rfl | rfl : k = 1 ∨ k = 2 ∨ k = 3 := by omega
      · unfold contN at *; omega
      · unfold contN at *; omega
      · unfold contN at *; omega
/-- The bytes of one letter. -/
def IsLet (b : List UInt8) : Prop := 0 < b.length ∧ szN b = b.length ∧ LetP (codeN b b.length : Int)
theorem isLet_app (b y : List UInt8) (h : IsLet b) : szN (b ++ y) = b.length ∧ LetP (codeN (b ++ y) (szN (b ++ y)) : Int) ∧ (b ++ y).take (szN (b ++ y)) = b := by
  obtain ⟨h0, h1, h2⟩ := h
  have h3 := szN_take b y h0 (by omega)
  rw [h1, List.take_length] at h3
  rw [h3.1, h3.2]
  exact ⟨rfl, h2, by rw [List.take_left']; rfl⟩
theorem let_bytes (l : List UInt8) (p : Nat) (hp : p < l.length) (h : LetP (codeN (l.drop p) (szN (l.drop p)) : Int)) : IsLet (bytesR l p) := by
  have h1 := let_whole l p h
  have h0 : 0 < (l.drop p).length := by rw [List.length_drop]; omega
  have h2 := szN_take (l.drop p) [] h0 h1
  have h3 := szN_le (l.drop p) h0
  rw [List.append_nil] at h2
  have hl : (bytesR l p).length = szN (l.drop p) := by rw [bytesR, List.length_take]; omega
  refine ⟨by omega, ?_, ?_⟩
  · rw [hl]; exact h2.1
  · rw [hl, bytesR, h2.2]; exact h
def LetW (t : List UInt8) (n : Nat) : Prop := ∃ bs : List (List UInt8), bs ≠ [] ∧ (∀ b ∈ bs, IsLet b) ∧ t = bs.flatten ∧ n = bs.length
def SigW (t : List UInt8) (n : Nat) : Prop := ∃ c : Nat, SigP (c : Int) ∧ t = [UInt8.ofNat c] ∧ n = 1
/-- A word's text, and how many runes it has. -/
def Tx (t : List UInt8) (n : Nat) : Prop := SigW t n ∨ LetW t n
theorem LetW.more {t : List UInt8} {n : Nat} {b : List UInt8} (h : LetW t n) (hb : IsLet b) : LetW (t ++ b) (n + 1) := by
  obtain ⟨bs, h1, h2, h3, h4⟩ := h
  refine ⟨bs ++ [b], by simp, fun x hx => ?_, by rw [h3]; simp, by rw [h4]; simp⟩
  rw [List.mem_append, List.mem_singleton] at hx
  rcases hx with hx | rfl
  · exact h2 x hx
  · exact hb
theorem LetW.one {b : List UInt8} (hb : IsLet b) : LetW b 1 := ⟨[b], by simp, fun x hx => by rw [List.mem_singleton] at hx; subst hx; exact hb, by simp, rfl⟩
theorem rnF_mem (l : List UInt8) : ∀ (f i : Nat), ∀ r ∈ rnF f l i, r.1 < l.length ∧ r.2.1 = codeN (l.drop r.1) (szN (l.drop r.1))
  | 0, i, r, h => by simp [rnF] at h
  | f + 1, i, r, h => by
    rw [rnF] at h
    split at h
    · rename_i hi
      rw [List.mem_cons] at h
      rcases h with rfl | h
      · exact ⟨hi, rfl⟩
      · exact rnF_mem l f _ r h
    · cases h
theorem bytesR_le (l : List UInt8) (p : Nat) (hp : p < l.length) : (bytesR l p).length ≤ 4 := by
  have := (szN_le (l.drop p) (by rw [List.length_drop]; omega)).2
  rw [bytesR, List.length_take]; omega
/-- The words of a text are words. -/
theorem lexF_good (l : List UInt8) : ∀ (rs : List Rn) (ws : List Wd) (run : Bool) (k : Nat), (∀ r ∈ rs, r.1 < l.length ∧ r.2.1 = codeN (l.drop r.1) (szN (l.drop r.1))) →
    (∀ w ∈ ws, (∃ n, Tx w.1 n) ∧ w.1.length ≤ 4 * k) → (run = true → ∃ vs w0 n, ws = vs ++ [w0] ∧ LetW w0.1 n) →
    ∀ w ∈ (lexF l ws run k rs).1, (∃ n, Tx w.1 n) ∧ w.1.length ≤ 4 * (k + rs.length)
  | [], ws, run, k, _, hw, _ => by simpa [lexF] using hw
  | r :: rs, ws, run, k, hr, hw, hrun => by
    have hr0 := hr r (List.mem_cons_self ..)
    have hrs := fun x hx => hr x (List.mem_cons_of_mem _ hx)
    rw [List.length_cons, show k + (rs.length + 1) = (k + 1) + rs.length by omega]
    by_cases h1 : LetP (r.2.1 : Int)
    · rw [lexF_let _ _ _ _ _ _ h1]
      have hL : IsLet (bytesR l r.1) := let_bytes l r.1 hr0.1 (by rw [← hr0.2]; exact h1)
      have hb4 := bytesR_le l r.1 hr0.1
      cases run with
      | true =>
        obtain ⟨vs, w0, n, rfl, hlw⟩ := hrun rfl
        rw [if_pos rfl, addL_snoc]
        refine lexF_good l rs _ true (k + 1) hrs (fun w hwm => ?_) (fun _ => ⟨vs, _, n + 1, rfl, hlw.more hL⟩)
        rw [List.mem_append, List.mem_singleton] at hwm
        rcases hwm with hwm | rfl
        · have := hw w (by simp [hwm])
          exact ⟨this.1, by omega⟩
        · have := hw w0 (by simp)
          exact ⟨⟨n + 1, .inr (hlw.more hL)⟩, by show (w0.1 ++ bytesR l r.1).length ≤ _; rw [List.length_append]; omega⟩
      | false =>
        rw [if_neg (by simp), addL_snoc]
        refine lexF_good l rs _ true (k + 1) hrs (fun w hwm => ?_) (fun _ => ⟨ws, _, 1, rfl, by simpa using LetW.one hL⟩)
        rw [List.mem_append, List.mem_singleton] at hwm
        rcases hwm with hwm | rfl
        · have := hw w hwm
          exact ⟨this.1, by omega⟩
        · exact ⟨⟨1, .inr (by simpa using LetW.one hL)⟩, by show ([] ++ bytesR l r.1).length ≤ _; rw [List.nil_append]; omega⟩
    · by_cases h2 : SigP (r.2.1 : Int)
      · rw [lexF_sig _ _ _ _ _ _ h1 h2]
        refine lexF_good l rs _ false (k + 1) hrs (fun w hwm => ?_) (fun h => absurd h (by simp))
        rw [List.mem_append, List.mem_singleton] at hwm
        rcases hwm with hwm | rfl
        · have := hw w hwm
          exact ⟨this.1, by omega⟩
        · exact ⟨⟨1, .inl ⟨r.2.1, h2, rfl, rfl⟩⟩, by show 1 ≤ _; omega⟩
      · by_cases h3 : r.2.1 = 32
        · rw [lexF_blank _ _ _ _ _ _ h3]
          exact lexF_good l rs _ false (k + 1) hrs (fun w hwm => ⟨(hw w hwm).1, by have := (hw w hwm).2; omega⟩) (fun h => absurd h (by simp))
        · rw [lexF_bad _ _ _ _ _ _ h1 h2 h3]
          intro w hwm
          cases hwm
theorem lexW_good (l : List UInt8) : ∀ w ∈ (lexW l).1, (∃ n, Tx w.1 n) ∧ w.1.length ≤ 800 := by
  unfold lexW
  split
  · intro w hw; cases hw
  · intro w hw
    have h1 := lexF_good l (rns l 0) [] false 0 (rnF_mem l _ _) (fun w h => by cases h) (fun h => absurd h (by simp)) w hw
    have h2 := rns_le l 0
    exact ⟨h1.1, by omega⟩
theorem drop_app {L : List UInt8} {p : Nat} {t rest : List UInt8} (h : L.drop p = t ++ rest) : L.drop (p + t.length) = rest := by
  rw [← List.drop_drop, h, List.drop_left']; rfl
theorem drop_lt {L : List UInt8} {p : Nat} {t : List UInt8} (h : L.drop p = t) (h0 : 0 < t.length) : p < L.length := by
  have : (L.drop p).length = t.length := by rw [h]
  rw [List.length_drop] at this; omega
theorem lexF_lets (L : List UInt8) (ws : List Wd) (k0 : Nat) : ∀ (bs : List (List UInt8)) (u : List UInt8) (k p : Nat) (rest : List UInt8), (∀ b ∈ bs, IsLet b) → L.drop p = bs.flatten ++ rest →
    lexF L (ws ++ [(u, k0)]) true k (rns L p) = lexF L (ws ++ [(u ++ bs.flatten, k0)]) true (k + bs.length) (rns L (p + bs.flatten.length))
  | [], u, k, p, rest, _, _ => by simp
  | b :: bs, u, k, p, rest, hb, hd => by
    have hb0 := hb b (List.mem_cons_self ..)
    rw [List.flatten_cons, List.append_assoc] at hd
    have ha := isLet_app b (bs.flatten ++ rest) hb0
    rw [← hd] at ha
    have hlt : p < L.length := drop_lt hd (by rw [List.length_append]; have := hb0.1; omega)
    have hm : max (szN (L.drop p)) 1 = b.length := by rw [ha.1]; have := hb0.1; omega
    rw [rns_step L p hlt, lexF_let L _ _ _ _ _ ha.2.1, if_pos rfl, addL_snoc, hm]
    have e : bytesR L p = b := ha.2.2
    have ih := lexF_lets L ws k0 bs (u ++ b) (k + 1) (p + b.length) rest (fun x hx => hb x (List.mem_cons_of_mem _ hx)) (drop_app hd)
    simp only [e]
    rw [ih, List.flatten_cons, List.length_append, List.length_cons, List.append_assoc, show k + 1 + bs.length = k + (bs.length + 1) by omega, Nat.add_assoc]
theorem ofNat_lt (c : Nat) (h : c < 128) : (UInt8.ofNat c).toNat = c := by rw [UInt8.toNat_ofNat']; omega
theorem one_byte (c : UInt8) (y : List UInt8) (h : c.toNat < 128) : szN (c :: y) = 1 ∧ codeN (c :: y) 1 = c.toNat := by
  have e : nb (c :: y) 0 = c.toNat := rfl
  refine ⟨?_, by rw [codeN_1, e]⟩
  unfold szN
  rw [if_pos (by omega)]
theorem lexF_word (L : List UInt8) (ws : List Wd) (k p : Nat) (t : List UInt8) (n : Nat) (rest : List UInt8) (hT : Tx t n) (hd : L.drop p = t ++ rest) :
    ∃ run, lexF L ws false k (rns L p) = lexF L (ws ++ [(t, k)]) run (k + n) (rns L (p + t.length)) := by
  rcases hT with ⟨c, hc, rfl, rfl⟩ | ⟨bs, h1, h2, rfl, rfl⟩
  · have hlt : p < L.length := drop_lt hd (by simp)
    have hc7 : c < 128 := by unfold SigP at hc; omega
    have h1 := one_byte (UInt8.ofNat c) rest (by rw [ofNat_lt c hc7]; omega)
    rw [ofNat_lt c hc7, ← List.singleton_append, ← hd] at h1
    refine ⟨false, ?_⟩
    rw [rns_step L p hlt, h1.1, h1.2, lexF_sig L ws false k _ _ (by show ¬ LetP (c : Int); unfold SigP at hc; unfold LetP; omega) hc]
    rfl
  · match bs, h1, h2, hd with
    | b :: bs, _, hb, hd =>
      have hb0 := hb b (List.mem_cons_self ..)
      rw [List.flatten_cons, List.append_assoc] at hd
      have ha := isLet_app b (bs.flatten ++ rest) hb0
      rw [← hd] at ha
      have hlt : p < L.length := drop_lt hd (by rw [List.length_append]; have := hb0.1; omega)
      have hm : max (szN (L.drop p)) 1 = b.length := by rw [ha.1]; have := hb0.1; omega
      refine ⟨true, ?_⟩
      rw [rns_step L p hlt, lexF_let L _ _ _ _ _ ha.2.1, if_neg (by simp), addL_snoc, hm]
      have e : bytesR L p = b := ha.2.2
      have ih := lexF_lets L ws k bs b (k + 1) (p + b.length) rest (fun x hx => hb x (List.mem_cons_of_mem _ hx)) (drop_app hd)
      simp only [e, List.nil_append]
      rw [ih, List.flatten_cons, List.length_append, List.length_cons, show k + 1 + bs.length = k + (bs.length + 1) by omega, Nat.add_assoc]
/-- Words, each with a blank ahead. -/
def jn : List (List UInt8) → List UInt8
  | [] => []
  | t :: ts => 32 :: (t ++ jn ts)
theorem jn_app : ∀ (a b : List (List UInt8)), jn (a ++ b) = jn a ++ jn b
  | [], b => rfl
  | t :: a, b => by rw [List.cons_append, jn, jn, jn_app a b]; simp
theorem jn_snoc (a : List (List UInt8)) (t : List UInt8) : jn (a ++ [t]) = jn a ++ 32 :: t := by rw [jn_app]; simp [jn]
/-- Words with their places. -/
def placed : Nat → List (List UInt8 × Nat) → List Wd
  | _, [] => []
  | k, t :: ts => (t.1, k) :: placed (k + t.2 + 1) ts
theorem lexF_join (L : List UInt8) : ∀ (ts : List (List UInt8 × Nat)) (ws : List Wd) (k p : Nat) (t : List UInt8) (n : Nat), Tx t n → (∀ x ∈ ts, Tx x.1 x.2) → L.drop p = t ++ jn (ts.map (·.1)) →
    lexF L ws false k (rns L p) = (ws ++ (t, k) :: placed (k + n + 1) ts, 0, 0)
  | [], ws, k, p, t, n, hT, _, hd => by
    obtain ⟨run, h⟩ := lexF_word L ws k p t n _ hT hd
    have h2 := drop_app hd
    simp only [List.map_nil, jn] at h2
    rw [h, rns_end L _ (by simpa using h2)]
    rfl
  | (t2, n2) :: ts, ws, k, p, t, n, hT, hTs, hd => by
    obtain ⟨run, h⟩ := lexF_word L ws k p t n _ hT hd
    have h2 := drop_app hd
    simp only [List.map_cons, jn] at h2
    have hlt : p + t.length < L.length := drop_lt h2 (by simp)
    have h3 := one_byte 32 (t2 ++ jn (ts.map (·.1))) (by decide)
    rw [← h2] at h3
    have h4 : L.drop (p + t.length + 1) = t2 ++ jn (ts.map (·.1)) := drop_app (t := [32]) h2
    rw [h, rns_step L _ hlt, h3.1, h3.2, lexF_blank L _ _ _ _ _ rfl, show max 1 1 = 1 from rfl,
      lexF_join L ts _ (k + n + 1) _ t2 n2 (hTs _ (List.mem_cons_self ..)) (fun x hx => hTs x (List.mem_cons_of_mem _ hx)) h4]
    simp [placed]
/-- How many runes a word has. -/
theorem rns_lets (L : List UInt8) : ∀ (bs : List (List UInt8)) (p : Nat), (∀ b ∈ bs, IsLet b) → L.drop p = bs.flatten → (rns L p).length = bs.length
  | [], p, _, hd => by
    rw [rns_end L p (by simpa using hd)]; rfl
  | b :: bs, p, hb, hd => by
    have hb0 := hb b (List.mem_cons_self ..)
    rw [List.flatten_cons] at hd
    have ha := isLet_app b bs.flatten hb0
    rw [← hd] at ha
    have hlt : p < L.length := drop_lt hd (by rw [List.length_append]; have := hb0.1; omega)
    have hm : max (szN (L.drop p)) 1 = b.length := by rw [ha.1]; have := hb0.1; omega
    rw [rns_step L p hlt, hm, List.length_cons, rns_lets L bs (p + b.length) (fun x hx => hb x (List.mem_cons_of_mem _ hx)) (drop_app hd), List.length_cons]
theorem Tx.runes {t : List UInt8} {n : Nat} (h : Tx t n) : (rns t 0).length = n := by
  rcases h with ⟨c, hc, rfl, rfl⟩ | ⟨bs, h1, h2, rfl, rfl⟩
  · have hc7 : c < 128 := by unfold SigP at hc; omega
    have h1 := one_byte (UInt8.ofNat c) [] (by rw [ofNat_lt c hc7]; omega)
    rw [rns_step [UInt8.ofNat c] 0 (by simp), List.drop_zero, h1.1, rns_end _ _ (by simp)]
    rfl
  · exact rns_lets _ bs 0 h2 rfl
/-- The whole: what was joined is the words at their places, unless it is too long. -/
theorem lexW_join (ts : List (List UInt8 × Nat)) (hT : ∀ x ∈ ts, Tx x.1 x.2) : lexW ((jn (ts.map (·.1))).drop 1) = if 200 < ((jn (ts.map (·.1))).drop 1).length then ([], 0, 4) else (placed 0 ts, 0, 0) := by
  rw [lexW]
  split
  · rfl
  · match ts, hT with
    | [], _ => rfl
    | (t, n) :: ts, hT =>
      have := lexF_join ((jn (((t, n) :: ts).map (·.1))).drop 1) ts [] 0 0 t n (hT _ (List.mem_cons_self ..)) (fun x hx => hT x (List.mem_cons_of_mem _ hx)) (by simp [jn])
      rw [this]
      simp [placed]
end Go.Proofs.Ytnjfcdmnedmldaa
