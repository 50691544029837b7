/- PackBack: the pieces. -/
import Derived.Test.YtdjcfeglaiihgaaPacL
namespace Go.Proofs.Ytdjcfeglaiihgaa
open Go.RowKit Go.Sort
set_option linter.unusedVariables false
set_option linter.unusedSimpArgs false

theorem bcells_set (l : List UInt8) (j : Nat) (d : UInt8) : bcells (l.set j d) = (bcells l).set j (.int .u8 (d.toNat : Int)) := by simp [bcells, List.map_set]
theorem flip_val (c : UInt8) (r : Nat) (h : r < 8) : bits .xor .u8 (c.toNat : Int) (2 ^ r % 256) = (((c ^^^ (1 <<< UInt8.ofNat r)).toNat : Nat) : Int) := by
  have hc := c.toNat_lt
  have h2 : (2 : Nat) ^ r < 256 := Nat.lt_of_lt_of_le (Nat.pow_lt_pow_right (by omega) h) (by decide)
  have e : ((2 : Int) ^ r % 256) = ((2 ^ r : Nat) : Int) := by
    match r, h with
    | 0, _ => rfl
    | 1, _ => rfl
    | 2, _ => rfl
    | 3, _ => rfl
    | 4, _ => rfl
    | 5, _ => rfl
    | 6, _ => rfl
    | 7, _ => rfl
  rw [e, u8_xor_nat _ _ hc h2, UInt8.toNat_xor, bit_u8 r h]
theorem odd_bit (t k : Nat) (ht : t < 4294967296) : bits .and .u32 ((t : Int) / 2 ^ k) 1 = ((t / 2 ^ k % 2 : Nat) : Int) := by
  have h1 : t / 2 ^ k < 4294967296 := Nat.lt_of_le_of_lt (Nat.div_le_self _ _) ht
  have := u32_and_nat (t / 2 ^ k) 1 h1 (by omega)
  rw [Nat.and_one_is_mod] at this
  rw [← this]
  simp

/-- Block G holds these bytes, that a conversion has made. -/
def BRow (w : World) (G c : Nat) (l : List UInt8) : Prop := ∃ cs : Array Value, w.heap[G]? = some (.cells cs 5 (cs.size, cs.size + 1)) ∧ l.length ≤ cs.size ∧ l.length ≤ c ∧ c ≤ maxLen ∧ ∀ i, i < l.length → cs[i]? = some (.int .u8 ((l.getD i 0).toNat : Int))
theorem BRow.cell {w : World} {G c : Nat} {l : List UInt8} (h : BRow w G c l) (i : Nat) (hi : i < l.length) : w.cell? ⟨G, i, none⟩ = some (.int .u8 ((l.getD i 0).toNat : Int)) ∧ w.frozen? ⟨G, i, none⟩ = false := by
  obtain ⟨cs, h1, h2, h3, h4, h5⟩ := h
  refine ⟨by rw [cell_of_row w G i cs _ _ h1, h5 i hi], ?_⟩
  simp only [World.frozen?, h1]
  rw [Bool.and_eq_false_iff]
  exact .inl (decide_eq_false (by omega))
theorem BRow.bytes {w : World} {G c : Nat} {l : List UInt8} (h : BRow w G c l) : IsBytes w (some ⟨G, 0, none⟩) l.length c l := by
  obtain ⟨cs, h1, h2, h3, h4, h5⟩ := h
  refine ⟨by rw [bcells_length, Nat.mul_one], h3, h4, fun _ => ⟨G, 0, rfl, fun i hi => ?_⟩⟩
  rw [bcells_length] at hi
  rw [cell_of_row w G (0 + i) cs _ _ h1, Nat.zero_add, h5 i hi]
  simp [bcells, hi]
theorem BRow.below {w w' : World} {G c : Nat} {l : List UInt8} (h : BRow w G c l) (hb : Below w.heap.size w w') : BRow w' G c l := by
  obtain ⟨cs, h1, h2⟩ := h
  exact ⟨cs, keep0 h1 hb, h2⟩
theorem BRow.set {w : World} {G c : Nat} {l : List UInt8} (h : BRow w G c l) (i : Nat) (d : UInt8) (hi : i < l.length) : BRow (w.setCell ⟨G, i, none⟩ (.int .u8 (d.toNat : Int))) G c (l.set i d) := by
  obtain ⟨cs, h1, h2, h3, h4, h5⟩ := h
  refine ⟨cs.setIfInBounds i (.int .u8 (d.toNat : Int)), ?_, by simpa using h2, by simpa using h3, h4, fun j hj => ?_⟩
  · simp [World.setCell, Array.getElem?_modify, h1]
  · rw [List.length_set] at hj
    rw [Array.getElem?_setIfInBounds, List.getD_eq_getElem?_getD, List.getElem?_set]
    by_cases e : i = j
    · subst e
      rw [if_pos rfl, if_pos (by omega), if_pos rfl, if_pos hi]
      rfl
    · rw [if_neg e, if_neg e, h5 j hj, List.getD_eq_getElem?_getD]
theorem bytes_brow (W : World) (s : ByteArray) (hs : s.size ≤ 100000) : ∃ w' c, (convert 9 34 (.string s)).run Try.prog W = .ok (.slice (some ⟨W.heap.size, 0, none⟩) s.size c) w' ∧ BRow w' W.heap.size c s.data.toList ∧ Below W.heap.size W w' ∧ W.heap.size < w'.heap.size := by
  have hsz : s.data.toList.length = s.size := by rw [Array.length_toList]; rfl
  refine ⟨_, _, run_bytes_of_string (P := Try.prog) W 9 34 5 s Try.underlying9 Try.underlying34 Try.underlying5, ⟨bytesRow s (grownCap W s.size 0 5), ?_, ?_, ?_, ?_, fun i hi => ?_⟩, ?_, ?_⟩
  · have := heap_alloc_new W.drew (.cells (bytesRow s (grownCap W s.size 0 5)) 5 ((bytesRow s (grownCap W s.size 0 5)).size, (bytesRow s (grownCap W s.size 0 5)).size + 1))
    simpa using this
  · rw [hsz]
    have : ∀ i, i < s.size → i < (bytesRow s (grownCap W s.size 0 5)).size := fun i hi => by
      have h1 := bytesRow_at s (grownCap W s.size 0 5) i hi
      exact (Array.getElem?_eq_some_iff.1 h1).1
    rcases Nat.eq_zero_or_pos s.size with h0 | h0
    · omega
    · have := this (s.size - 1) (by omega); omega
  · rw [hsz]; exact grownCap_ge W s.size 0 5
  · exact grownCap_le_maxLen W s.size 0 5 (by unfold maxLen; omega)
  · rw [hsz] at hi
    rw [bytesRow_at s _ i hi, List.getD_eq_getElem?_getD, List.getElem?_eq_getElem (by rw [hsz]; exact hi)]
    simp
  · exact Below.trans (⟨rfl, rfl, rfl, Nat.le_refl _, fun _ _ => rfl⟩ : Below W.heap.size W W.drew) ((Below.refl W.heap.size W.drew).alloc (Nat.le_refl W.heap.size) _)
  · simp

/-- The law's packet and turns. -/
structure KSt (W w : World) (A B t0 t1 : Nat) (k f t i p s : Int) (b : ByteArray) : Prop where
  a : Pc 56 w A k f t i p s b
  b : w.heap[B]? = some (.cells #[.int .u32 (t0 : Int), .int .u32 (t1 : Int)] 52 (0, 0))
  bel : Below W.heap.size W w
theorem KSt.below {W w w' : World} {A B t0 t1 : Nat} {k f t i p s : Int} {b : ByteArray} (h : KSt W w A B t0 t1 k f t i p s b) (hb : Below w.heap.size w w') : KSt W w' A B t0 t1 k f t i p s b :=
  ⟨keep0 h.a hb, keep0 h.b hb, h.bel.trans (hb.mono h.bel.size)⟩
theorem opV_put {k f t i p s : Int} {b : ByteArray} (h : okP k f t i p s b.data.toList = true) : opV (frP (plB k f t i p s b.data.toList)) = .agg #[.int .i64 k, .int .i64 f, .int .i64 t, .int .i64 i, .int .i64 p, .int .i64 s, .string b] := by
  have he := opE_put h
  have hc := cut_put h
  obtain ⟨_, h1, h2, h3, h4, h5, h6, h7⟩ := qz_put h
  rw [opV, if_pos he, hc]
  simp only
  rw [h1, h2, h3, h4, h5, h6, h7, str_of]
  rfl
/-- A packet that was opened tells of its bytes. -/
theorem opV_ok (x : ByteArray) (h : opE x.data.toList = 0) : ∃ (k f t i p s : Int) (b : ByteArray), opV x.data.toList = .agg #[.int .i64 k, .int .i64 f, .int .i64 t, .int .i64 i, .int .i64 p, .int .i64 s, .string b] ∧ b.size ≤ 1000 ∧ pbS k f t i p s b = x := by
  obtain ⟨h1, h2⟩ := opE_ok _ h
  have hb : (str (qb (cutS x.data.toList).1).1).data.toList = (qb (cutS x.data.toList).1).1 := by simp [str]
  refine ⟨_, _, _, _, _, _, _, by rw [opV, if_pos h]; rfl, ?_, ?_⟩
  · rw [str_size]
    have h9 := (okP_iff h1).2.2.2.2.2.2.2
    unfold inT at h9
    split at h9
    · have := of_decide_eq_true h9; omega
    · have := of_decide_eq_true h9; omega
  · rw [pbS, hb, if_pos h1, h2, str_of]
end Go.Proofs.Ytdjcfeglaiihgaa
