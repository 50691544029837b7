/- show: what the law asks, in mathematics. -/
import Derived.Test.YtdphdodjidbngaaShP
import Derived.Test.YtdphdodjidbngaaQShwK
import Derived.Test.YtdphdodjidbngaaQShwD
namespace Go.Proofs.Ytdphdodjidbngaa
open Go.RowKit
set_option linter.unusedVariables false
set_option linter.unusedSimpArgs false

theorem lets_len : ∀ bs : List (List UInt8), (∀ b ∈ bs, IsLet b) → bs.flatten.length ≤ 4 * bs.length
  | [], _ => by simp
  | b :: bs, h => by
    have h1 := lets_len bs (fun x hx => h x (List.mem_cons_of_mem _ hx))
    obtain ⟨h0, h2, h3⟩ := h b (List.mem_cons_self ..)
    have h4 := (szN_le b h0).2
    rw [List.flatten_cons, List.length_append, List.length_cons]
    omega
theorem name_short (l : List UInt8) (h : nameR (rns l 0) = true) : l.length ≤ 100 := by
  obtain ⟨n, hn⟩ := name_word l h
  have h1 := (Tx.runes (.inr hn) : (rns l 0).length = n)
  obtain ⟨bs, _, hb, e, e2⟩ := hn
  have h2 := lets_len bs hb
  rw [← e] at h2
  unfold nameR at h
  simp only [Bool.and_eq_true, decide_eq_true_eq] at h
  have := h.2.1.2
  omega
/-- A good table. -/
def GoodT (T : List (List UInt8)) : Prop := T.length ≤ 16 ∧ WrdT T ∧ Once T ∧ ∀ s ∈ T, s.length ≤ 100
theorem goodT {T : List (List UInt8)} (h : T.length ≤ 16 ∧ NamsK T T.length ∧ Asc T T.length) : GoodT T := by
  have hn : ∀ s ∈ T, nameR (rns s 0) = true := fun s hs => by
    obtain ⟨i, hi, rfl⟩ := List.getElem_of_mem hs
    exact h.2.1 i hi hi
  exact ⟨h.1, fun s hs => name_word s (hn s hs), h.2.2.once, fun s hs => name_short s (hn s hs)⟩
theorem text_ne {T : List (List UInt8)} {l : List (Int × Int)} (h : textV T l ≠ []) (hc : chkN l = 0) : ∃ t : Nt, t.wf ∧ l = t.flat ∧ inT T.length t ∧ textV T l = txt T t := by
  obtain ⟨t, hw, rfl, _, _, _⟩ := chkN_zero hc
  rw [textV_tree hw hc] at h ⊢
  cases ho : outN T.length t.flat with
  | true => rw [ho, if_pos rfl] at h; exact absurd rfl h
  | false => exact ⟨t, hw, rfl, (out_in T.length t hw).1 ho, by rw [if_neg (by simp)]⟩
theorem back_eq {T : List (List UInt8)} (hT : GoodT T) {l m : List (Int × Int)} (hl : chkN l = 0) (hm : chkN m = 0) (h1 : textV T l ≠ []) (h2 : textV T m ≠ []) : ((str (textV T l)).toList == (str (textV T m)).toList) = (l == m) := by
  rw [ByteArray.toList_eq, ByteArray.toList_eq]
  obtain ⟨t, hw, rfl, hi, e⟩ := text_ne h1 hl
  obtain ⟨u, hw2, rfl, hi2, e2⟩ := text_ne h2 hm
  rw [e, e2]
  by_cases h : txt T t = txt T u
  · have := txt_inj hT.2.1 hT.2.2.1 hw hw2 hi hi2 h
    subst this
    simp
  · have h9 : t.flat ≠ u.flat := fun e => h (by rw [flat_inj hw hw2 e])
    rw [show (t.flat == u.flat) = false from by simpa using h9]
    simpa [str] using h
theorem back_nd {T : List (List UInt8)} (hT : GoodT T) {l : List (Int × Int)} (hl : chkN l = 0) (h1 : textV T l ≠ []) (h2 : (textV T l).length ≤ 200) : ndT T (textV T l) = (l, 0, 0) := by
  obtain ⟨t, hw, rfl, hi, e⟩ := text_ne h1 hl
  rw [e] at h2 ⊢
  exact ndT_txt hT.2.1 hT.2.2.1 t hw hi h2 hl
theorem chk_short {l : List (Int × Int)} (h : chkN l = 0) : l.length ≤ 31 := by
  obtain ⟨t, _, _, _, h5, _⟩ := chkN_zero h
  exact h5
set_option maxRecDepth 20000 in
set_option maxHeartbeats 2000000 in
/-- The document's check, of a list of any length. -/
theorem rcheckL_any (A : Option Addr) (cap : Nat) (l : List (Int × Int)) (W : World) (h : Sl W 2 A l.length cap (pcells l)) :
    Calls Try.prog 13 #[.slice A l.length cap] W fun e w' => e = .returned (.int .i64 (chkN l)) ∧ Below W.heap.size W w' := by
  by_cases h31 : 31 < l.length
  · have h2 : (31 : Int) < (l.length : Int) := by omega
    have HC : Hid (chkN l = 4) := hid (by unfold chkN; rw [if_pos h31])
    clear h
    generalize hm : l.length = m at *
    clear hm
    go_enter Try.func13, Try.ntmps13
    go_wp2_with fail
    go_ret
    exact ⟨by rw [HC.out]; rfl, Below.refl _ _⟩
  · exact rcheck09_any A cap l W h (by omega)
end Go.Proofs.Ytdphdodjidbngaa
