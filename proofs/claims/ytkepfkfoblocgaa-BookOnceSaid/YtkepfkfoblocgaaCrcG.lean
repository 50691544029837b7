/- What the checksum package's Open, its reference and the law's example do. -/
import Derived.Test.YtkepfkfoblocgaaCrcW
import Derived.BigQuiet
import Derived.Deep.QuietTactic
namespace Go.Proofs.Ytkepfkfoblocgaa
open Go.RowKit

theorem fours_any (x : Nat) (w : World) (hx : x < 4294967296) :
    Calls Try.prog 141 #[.int .u32 x] w fun e w' => e = .returned (.string ⟨(fourL x).toArray⟩) ∧ Below w.heap.size w w' := by
  have hcv := conv_str (P := Try.prog) (src := 24) (dst := 9) Try.underlying24 Try.underlying5 Try.underlying9 (l := fourL x) (Sl.lit w 5 1 4 (bcells (fourL x)).toArray rfl (by unfold maxLen; omega))
  have e : bcells (fourL x) = [.int .u8 ((x : Int) % 256), .int .u8 ((x : Int) / 256 % 256), .int .u8 ((x : Int) / 65536 % 256), .int .u8 ((x : Int) / 16777216 % 256)] := by
    simp only [bcells, fourL, List.map_cons, List.map_nil]
    rw [u8_of _ (by omega), u8_of _ (by omega), u8_of _ (by omega), u8_of _ (by omega)]
    simp only [List.cons.injEq, Value.int.injEq, and_true, true_and]
    omega
  rw [e] at hcv
  clear hx e
  go_enter Try.func141, Try.ntmps141
  go_wp2
  go_ret
  exact ⟨rfl, (Below.refl _ _).alloc (Nat.le_refl _) _⟩

theorem sealS (s : ByteArray) : s ++ ⟨(fourL (moreN 0 s.data.toList)).toArray⟩ = (⟨(sealL s.data.toList).toArray⟩ : ByteArray) := by
  apply ByteArray.ext
  simp [sealL]

theorem rseal_any (s : ByteArray) (w : World) (hs : s.size ≤ 140737488351232) :
    Calls Try.prog 122 #[.string s] w fun e w' => e = .returned (.string ⟨(sealL s.data.toList).toArray⟩) ∧ Below w.heap.size w w' := by
  have HX := hid (show s.size ≤ maxLen by unfold maxLen; omega)
  have hsz : s.size + (fourL (moreN 0 s.data.toList)).length ≤ 9223372036854775807 := by simp [fourL]; omega
  clear hs
  go_enter Try.func122, Try.ntmps122
  go_wp2_with (first | (go_at_call 142; refine (rof_any _ _ HX.out).mono ?_; rintro e w' ⟨rfl, rfl⟩) | (go_at_call 141; refine (fours_any _ _ (moreN_lt _ _)).mono ?_; rintro e w' ⟨rfl, hb⟩))
  go_ret
  exact ⟨by rw [← sealS]; rfl, hb⟩

theorem Sl.litm (W : World) (e size n : Nat) (xs : Array Value) (m : Nat × Nat) (hs : xs.size = n * size) (hm : n ≤ maxLen) : Sl (W.alloc (.cells xs e m)) size (some ⟨W.heap.size, 0, none⟩) n n xs.toList :=
  ⟨by simpa using hs, Nat.le_refl _, hm, fun _ => ⟨W.heap.size, 0, rfl, fun i _ => by
    rw [cell_of_row _ W.heap.size (0 + i) xs e m (heap_alloc_new W _), Nat.zero_add]
    simp⟩⟩

theorem shift_cast (x k : Nat) : (x : Int) / 2 ^ k % 256 = ((x / 2 ^ k % 256 : Nat) : Int) := by simp

/-- The four bytes behind place n are the sum's, byte by byte. -/
theorem four_at (l : List UInt8) (n x : Nat) (hl : l.length = n + 4) : l.drop n = fourL x ↔ ∀ k, k < 4 → (l.getD (n + k) 0).toNat = x / 2 ^ (8 * k) % 256 := by
  have e : ∀ k, k < 4 → (fourL x).getD k 0 = UInt8.ofNat (x / 2 ^ (8 * k) % 256) := by
    intro k hk
    match k, hk with
    | 0, _ => simp [fourL]
    | 1, _ => simp [fourL]
    | 2, _ => simp [fourL]
    | 3, _ => simp [fourL]; apply UInt8.toNat_inj.1; simp
  constructor
  · intro h k hk
    have h1 : l.getD (n + k) 0 = (fourL x).getD k 0 := by rw [← h]; simp [List.getD_eq_getElem?_getD, List.getElem?_drop]
    rw [h1, e k hk, u8_of _ (by omega)]
  · intro h
    apply List.ext_getElem?
    intro k
    by_cases hk : k < 4
    · have h1 := h k hk
      have h2 := congrArg UInt8.toNat (e k hk)
      rw [u8_of _ (by omega), ← h1] at h2
      have h3 := UInt8.toNat_inj.1 h2
      rw [List.getElem?_drop]
      rw [List.getD_eq_getElem?_getD, List.getD_eq_getElem?_getD] at h3
      rw [List.getElem?_eq_getElem (show n + k < l.length by omega)] at h3 ⊢
      rw [List.getElem?_eq_getElem (show k < (fourL x).length by simp [fourL]; omega)] at h3 ⊢
      simp only [Option.getD_some] at h3
      rw [h3]
    · rw [List.getElem?_eq_none (by simp; omega), List.getElem?_eq_none (by simp [fourL]; omega)]

set_option maxHeartbeats 1000000 in
theorem open_good (a : Option Addr) (len cap : Nat) (l : List UInt8) (n : Nat) (w : World) (hb : IsBytes w a len cap l) (hl : l.length ≤ 140737488351232) (hn : l.length = n + 4) (hd : l.drop n = fourL (moreN 0 (l.take n))) :
    Calls Try.prog 129 #[.slice a len cap] w fun e w' => ∃ v, e = .returned (.tuple #[v, .bool true]) ∧ w'.ownsRow w.heap.size 5 1 v n (bcells (l.take n)) ∧ Below w.heap.size w w' := by
  obtain ⟨rfl, hlc, hcm⟩ := hb.len
  have HD := hid ((four_at l n _ hn).1 hd)
  have HT := hid (hb.take n (by omega))
  have HB := hid hb
  have HN := hid hn
  clear hb hd
  rw [hn] at hl hlc ⊢
  clear hn
  go_enter Try.func129, Try.ntmps129
  go_wp2_with (go_at_call 140; refine (of_any a n cap (l.take n) _ HT.out).mono ?_; rintro e w' ⟨rfl, rfl⟩)
  obtain ⟨x, hx⟩ : ∃ x, x = moreN 0 (List.take n l) := ⟨_, rfl⟩
  rw [← hx] at HD ⊢
  have HX := hid hx; clear hx
  go_loopw [16, 6] (fun i _ wr => ∃ k q : Nat, k ≤ 4 ∧ i = .int .i64 k ∧ wr = w.drewN q) (fun i _ _ => 4 - (intOf i).toNat)
  case atStart => exact ⟨0, 0, by omega, rfl, rfl⟩
  case round =>
    obtain ⟨k, q, hk, rfl, rfl⟩ := hrel
    by_cases hk4 : k < 4
    · obtain ⟨b, off, ha, hc⟩ := HB.out.at (n + k) (by rw [HN.out]; omega)
      have e1 := HD.out k hk4
      subst ha
      generalize l.getD (n + k) 0 = c at hc e1
      have e2 : (((c.toNat : Int)) != (x : Int) / 2 ^ (8 * k) % 256) = false := by rw [shift_cast, ← e1]; exact bne_self_eq_false _
      have b1 : (n : Int) + k < (n : Int) + 4 := by omega
      have b2 : (0 : Int) ≤ (n : Int) + k := by omega
      have b3 : (0 : Int) ≤ 8 * (k : Int) := by omega
      clear e1
      go_wp2
      go_quiet (fail)
      go_wp2
      go_roundw
      case rel => exact ⟨k + 1, q + nq, by omega, by go_num, rfl⟩
      case measure => simp [intOf]; omega
    · obtain rfl : k = 4 := by omega
      go_wp2_with (at_builtin; refine wpList_append_sl (W := w) rfl (.const (.slice none 0 0)) (.tmp 34) 24 rfl w.heap.size 5 Try.underlying24 Try.info5 rfl (by omega) rfl (World.ownsRow_nil _ _ _ _) rfl (show Sl (w.drewN q) 1 a n cap (bcells (l.take n)) from HT.out) (bcells_one _) (by unfold maxLen; omega) (by omega) (Nat.le_refl _) ⟨rfl, rfl, rfl, Nat.le_refl _, fun _ _ => rfl⟩ ?_)
      intro v' w' h2 h3 h4
      have HO := hid h2; clear h2
      go_wp2
      go_ret2
      exact ⟨v', rfl, by simpa using HO.out, h3⟩

set_option maxHeartbeats 1000000 in
theorem open_bad (a : Option Addr) (len cap : Nat) (l : List UInt8) (w : World) (hb : IsBytes w a len cap l) (hl : l.length ≤ 140737488351232) (hd : ∀ n, l.length = n + 4 → l.drop n ≠ fourL (moreN 0 (l.take n))) :
    Calls Try.prog 129 #[.slice a len cap] w fun e w' => e = .returned (.tuple #[.slice none 0 0, .bool false]) ∧ Below w.heap.size w w' := by
  obtain ⟨rfl, hlc, hcm⟩ := hb.len
  by_cases h4 : l.length < 4
  · have h5 : (l.length : Int) - 4 < 0 := by omega
    clear hb hd
    go_enter Try.func129, Try.ntmps129
    go_wp2
    go_ret2
    exact ⟨rfl, Below.refl _ _⟩
  · obtain ⟨n, hn⟩ : ∃ n, l.length = n + 4 := ⟨l.length - 4, by omega⟩
    have hd := hd n hn
    rw [Ne, four_at l n _ hn] at hd
    obtain ⟨m, hm4, hmb, hml⟩ : ∃ m, m < 4 ∧ (l.getD (n + m) 0).toNat ≠ moreN 0 (l.take n) / 2 ^ (8 * m) % 256 ∧ ∀ k, k < m → (l.getD (n + k) 0).toNat = moreN 0 (l.take n) / 2 ^ (8 * k) % 256 := by
      generalize moreN 0 (l.take n) = x at hd
      by_cases h0 : (l.getD (n + 0) 0).toNat = x / 2 ^ (8 * 0) % 256
      · by_cases h1 : (l.getD (n + 1) 0).toNat = x / 2 ^ (8 * 1) % 256
        · by_cases h2 : (l.getD (n + 2) 0).toNat = x / 2 ^ (8 * 2) % 256
          · by_cases h3 : (l.getD (n + 3) 0).toNat = x / 2 ^ (8 * 3) % 256
            · exact absurd (fun k hk => by match k, hk with | 0, _ => exact h0 | 1, _ => exact h1 | 2, _ => exact h2 | 3, _ => exact h3) hd
            · exact ⟨3, by omega, h3, fun k hk => by match k, hk with | 0, _ => exact h0 | 1, _ => exact h1 | 2, _ => exact h2⟩
          · exact ⟨2, by omega, h2, fun k hk => by match k, hk with | 0, _ => exact h0 | 1, _ => exact h1⟩
        · exact ⟨1, by omega, h1, fun k hk => by match k, hk with | 0, _ => exact h0⟩
      · exact ⟨0, by omega, h0, fun k hk => by omega⟩
    have HD := hid (And.intro hmb hml)
    have HT := hid (hb.take n (by omega))
    have HB := hid hb
    have HN := hid hn
    clear hb hd hmb hml h4
    rw [hn] at hl hlc ⊢
    clear hn
    go_enter Try.func129, Try.ntmps129
    go_wp2_with (go_at_call 140; refine (of_any a n cap (l.take n) _ HT.out).mono ?_; rintro e w' ⟨rfl, rfl⟩)
    obtain ⟨x, hx⟩ : ∃ x, x = moreN 0 (List.take n l) := ⟨_, rfl⟩
    rw [← hx] at HD ⊢
    have HX := hid hx; clear hx
    go_loopw [16, 6] (fun i _ wr => ∃ k q : Nat, k ≤ m ∧ i = .int .i64 k ∧ wr = w.drewN q) (fun i _ _ => 4 - (intOf i).toNat)
    case atStart => exact ⟨0, 0, by omega, rfl, rfl⟩
    case round =>
      obtain ⟨k, q, hk, rfl, rfl⟩ := hrel
      obtain ⟨b, off, ha, hc⟩ := HB.out.at (n + k) (by rw [HN.out]; omega)
      subst ha
      have b1 : (n : Int) + k < (n : Int) + 4 := by omega
      have b2 : (0 : Int) ≤ (n : Int) + k := by omega
      have b3 : (0 : Int) ≤ 8 * (k : Int) := by omega
      by_cases hkm : k < m
      · have e1 := HD.out.2 k hkm
        generalize l.getD (n + k) 0 = c at hc e1
        have e2 : (((c.toNat : Int)) != (x : Int) / 2 ^ (8 * k) % 256) = false := by rw [shift_cast, ← e1]; exact bne_self_eq_false _
        clear e1
        go_wp2
        go_quiet (fail)
        go_wp2
        go_roundw
        case rel => exact ⟨k + 1, q + nq, by omega, by go_num, rfl⟩
        case measure => simp [intOf]; omega
      · obtain rfl : k = m := by omega
        have e1 := HD.out.1
        generalize l.getD (n + k) 0 = c at hc e1
        have e2 : (((c.toNat : Int)) != (x : Int) / 2 ^ (8 * k) % 256) = true := by rw [shift_cast, bne_iff_ne]; exact fun h => e1 (Int.natCast_inj.1 h)
        clear e1
        go_wp2
        go_quiet (fail)
        go_wp2
        go_ret2
        exact ⟨rfl, ⟨rfl, rfl, rfl, Nat.le_refl _, fun _ _ => rfl⟩⟩
end Go.Proofs.Ytkepfkfoblocgaa
