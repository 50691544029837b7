/- read.Need, and the document's: contracts. -/
import Derived.Test.YtdphdodjidbngaaQReaO
import Derived.Test.YtdphdodjidbngaaQReaS
import Derived.Test.YtdphdodjidbngaaLxP
import Derived.BigQuiet
namespace Go.Proofs.Ytdphdodjidbngaa
open Go.RowKit
set_option linter.unusedVariables false
set_option linter.unusedSimpArgs false

theorem lexW_len (l : List UInt8) : (lexW l).1.length ≤ 200 := by
  unfold lexW
  split
  · simp
  · have h1 := lexF_len l (rns l 0) [] false 0
    have h2 := rns_le l 0
    simp only [List.length_nil] at h1
    omega
theorem rdTop_len {T E ws r o} (h : rdTop T E ws = .ok r o) : o.length ≤ ws.length := by
  have := rp_len _ _ _ _ _ _ _ _ (rdTop_ok h).2
  simp at this
  exact this
/-- The need that a text is: the nodes, the place, the error. -/
def ndT (T : List (List UInt8)) (l : List UInt8) : List (Int × Int) × Nat × Int :=
  if (lexW l).2.2 = 0 then
    match rdTop T (rns l 0).length (lexW l).1 with
    | .er k c => ([], k, c)
    | .ok _ o => if chkN o = 0 then (o, 0, 0) else ([], 0, chkN o)
  else ([], (lexW l).2.1, (((lexW l).2.2 : Nat) : Int))
theorem ndT_lex {T l} (h : (lexW l).2.2 ≠ 0) : ndT T l = ([], (lexW l).2.1, (((lexW l).2.2 : Nat) : Int)) := by rw [ndT, if_neg h]
theorem ndT_er {T l k c} (h : (lexW l).2.2 = 0) (h2 : rdTop T (rns l 0).length (lexW l).1 = .er k c) : ndT T l = ([], k, c) := by rw [ndT, if_pos h, h2]
theorem ndT_ok {T l r o} (h : (lexW l).2.2 = 0) (h2 : rdTop T (rns l 0).length (lexW l).1 = .ok r o) (h3 : chkN o = 0) : ndT T l = (o, 0, 0) := by rw [ndT, if_pos h, h2]; simp only [h3, if_true]
theorem ndT_bad {T l r o} (h : (lexW l).2.2 = 0) (h2 : rdTop T (rns l 0).length (lexW l).1 = .ok r o) (h3 : chkN o ≠ 0) : ndT T l = ([], 0, chkN o) := by rw [ndT, if_pos h, h2]; simp only; rw [if_neg h3]
theorem ndT_len (T l) : (ndT T l).1.length ≤ 200 := by
  have hw := lexW_len l
  unfold ndT
  split
  · cases h : rdTop T (rns l 0).length (lexW l).1 with
    | er k c => simp
    | ok r o =>
      have := rdTop_len h
      simp only
      split
      · simp only; omega
      · simp
  · simp
attribute [irreducible] ndT
/-- What a call of Need answers. -/
def NdAns (T : List (List UInt8)) (l : List UInt8) (W : World) (e : Ending) (w' : World) : Prop :=
  ∃ A c, e = .returned (.tuple #[.slice A (ndT T l).1.length c, .int .i64 ((ndT T l).2.1 : Nat), .int .i64 (ndT T l).2.2]) ∧ w'.ownsRow W.heap.size 77 2 (.slice A (ndT T l).1.length c) (ndT T l).1.length (pcells (ndT T l).1) ∧ Below W.heap.size W w'
theorem NdAns.none {T l W w' k c} (h : ndT T l = ([], k, c)) (hb : Below W.heap.size W w') : NdAns T l W (.returned (.tuple #[.slice Option.none 0 0, .int .i64 (k : Nat), .int .i64 c])) w' := by
  refine ⟨Option.none, 0, by rw [h]; rfl, ?_, hb⟩
  rw [h]
  exact World.ownsRow_nil _ _ _ _
theorem PX.start {W w : World} {TA A0 : Option Addr} {Tc c0 E : Nat} {T : List (List UInt8)} {ws : List Wd} (hT : Sl W 1 TA T.length Tc (scells T)) (ho : w.ownsRow W.heap.size 154 2 (.slice A0 ws.length c0) ws.length (wcells ws)) (hb : Below W.heap.size W w) (hl : ws.length ≤ 200) :
    PX ⟨W, w.heap.size, TA, Tc, T, A0, c0, ws, E, W⟩ (w.alloc (.cells #[.slice TA T.length Tc, .slice A0 ws.length c0, .int .i64 (E : Nat), .slice none 0 0] 104)) ws [] := by
  have hb1 : Below w.heap.size w (w.alloc (.cells #[.slice TA T.length Tc, .slice A0 ws.length c0, .int .i64 (E : Nat), .slice none 0 0] 104)) := (Below.refl _ _).alloc (Nat.le_refl _) _
  have hb2 := hb.trans (hb1.mono hb.size)
  exact ⟨hb2, hb.size, hT, own_keep ho hb1, by simp; omega, fun g cs t _ _ h9 => (hb2.block g (lt_of_block h9)).trans h9, A0, c0, none, 0, fun u hu => sl_own hu, heap_alloc_new _ _, World.ownsRow_nil _ _ _ _⟩
set_option maxRecDepth 20000 in
set_option maxHeartbeats 2000000 in
theorem need_any (TA : Option Addr) (Tc : Nat) (T : List (List UInt8)) (l : List UInt8) (W : World) (hT : Sl W 1 TA T.length Tc (scells T)) (hl : l.length ≤ 1000) :
    Calls Try.prog 15 #[.slice TA T.length Tc, .string (str l)] W fun e w' => NdAns T l W e w' := by
  have HW := hid (words_is l hl W)
  have HCT := hid (fun u => count_is l hl u)
  have HT := hid hT
  have hwl := lexW_len l
  by_cases he : (lexW l).2.2 = 0
  · have HRT : Hid (∀ R, rdTop T (rns l 0).length (lexW l).1 = R → ∀ k c, R = .er k c → ndT T l = ([], k, c) ∧ c ≠ 0) := hid fun R h k c h2 => ⟨ndT_er he (h.trans h2), rdTop_er (h.trans h2)⟩
    have HOK : Hid (∀ r o, rdTop T (rns l 0).length (lexW l).1 = .ok r o → (chkN o = 0 → ndT T l = (o, 0, 0)) ∧ (chkN o ≠ 0 → ndT T l = ([], 0, chkN o)) ∧ o.length ≤ 200) := hid fun r o h => ⟨ndT_ok he h, ndT_bad he h, Nat.le_trans (rdTop_len h) hwl⟩
    rw [he] at HW
    obtain ⟨RR, hRR⟩ : ∃ RR, rdTop T (rns l 0).length (lexW l).1 = RR := ⟨_, rfl⟩
    have HRR := hid hRR
    have hwl2 := hid hwl
    clear hT hl hwl he hRR
    generalize hat : (lexW l).2.1 = at0 at HW
    clear hat
    generalize hws : (lexW l).1 = ws at *
    clear hws
    generalize (rns l 0).length = E at *
    generalize str l = s at *
    go_enter Try.func15, Try.ntmps15
    go_wp2_with fail
    refine HW.out.mono ?_
    rintro e w1 ⟨A0, c0, rfl, ho, hb⟩
    have HO1 := hid ho
    have HB1 := hid hb
    clear ho hb HW
    go_wp2_with fail
    refine (HCT.out w1).mono ?_
    rintro e w2 ⟨rfl, hb⟩
    have HPX : Hid (PX ⟨W, w2.heap.size, TA, Tc, T, A0, c0, ws, E, W⟩ (w2.alloc (.cells #[.slice TA T.length Tc, .slice A0 ws.length c0, .int .i64 (E : Nat), .slice none 0 0] 104)) ws []) := hid (PX.start HT.out (own_keep HO1.out hb) (HB1.out.trans (hb.mono HB1.out.size)) hwl2.out)
    have HPA := hid (parse_any ⟨W, w2.heap.size, TA, Tc, T, A0, c0, ws, E, W⟩ _ HPX.out)
    simp only [HRR.out] at HPA
    clear hb HO1 HB1 HCT HPX hwl2
    go_wp2_with fail
    refine HPA.out.mono ?_
    cases RR with
    | er k c =>
      rintro e w3 ⟨rfl, hb⟩
      have hnd := HRT.out _ HRR.out k c rfl
      have HF := hid (NdAns.none hnd.1 hb)
      have hc := hnd.2
      have hc2 : (c != 0) = true := by simpa using hc
      clear hnd hb HPA HRR HOK HRT
      go_wp2
      refine bodyPost_ret (v := .tuple #[.slice none 0 0, .int .i64 (k : Nat), .int .i64 c]) (by simp [results, Try.results15, go_sem]) rfl ?_
      exact HF.out
    | ok r o =>
      rintro e w3 ⟨⟨A3, c3, rfl, ho⟩, hb⟩
      obtain ⟨hk1, hk2, hol⟩ := HOK.out r o HRR.out
      have HO3 : Hid (w3.ownsRow W.heap.size 77 2 (.slice A3 o.length c3) o.length (pcells o)) := hid ho
      have HB3 : Hid (Below W.heap.size W w3) := hid hb
      have HCK := hid (ncheck_any A3 c3 o w3 (sl_own HO3.out) (by omega))
      have HK1 := hid hk1
      have HK2 := hid hk2
      clear ho hb HPA HRR HOK HRT hk1 hk2 hol
      go_wp2_with fail
      refine HCK.out.mono ?_
      rintro e w4 ⟨rfl, hb⟩
      have HO4 := hid (own_keep HO3.out hb)
      have HB4 := hid (HB3.out.trans (hb.mono HB3.out.size))
      clear hb HO3 HB3 HCK
      by_cases hz : chkN o = 0
      · have hnd := HK1.out hz
        have HF : Hid (NdAns T l W (.returned (.tuple #[.slice A3 o.length c3, .int .i64 0, .int .i64 0])) w4) := hid ⟨A3, c3, by rw [hnd]; rfl, by rw [hnd]; exact HO4.out, HB4.out⟩
        clear hnd HK1 HK2
        rw [hz]
        clear hz
        go_wp2
        refine bodyPost_ret (v := .tuple #[.slice A3 o.length c3, .int .i64 0, .int .i64 0]) (by simp [results, Try.results15, go_sem]) rfl ?_
        exact HF.out
      · have hnd := HK2.out hz
        have HF := hid (NdAns.none hnd HB4.out)
        generalize chkN o = z at *
        have hz2 : (z != 0) = true := by simpa using hz
        clear hnd HK1 HK2
        go_wp2
        refine bodyPost_ret (v := .tuple #[.slice none 0 0, .int .i64 0, .int .i64 z]) (by simp [results, Try.results15, go_sem]) rfl ?_
        exact HF.out
  · have hnd := ndT_lex (T := T) he
    have HND := hid hnd
    generalize hz : (lexW l).2.2 = z at *
    clear hz hnd
    generalize (lexW l).2.1 = at0 at *
    generalize (lexW l).1 = ws at *
    have hz2 : ((z : Int) != 0) = true := by simp; omega
    clear hT hl hwl HCT HT
    generalize str l = s at *
    go_enter Try.func15, Try.ntmps15
    go_wp2_with fail
    refine HW.out.mono ?_
    rintro e w1 ⟨A0, c0, rfl, ho, hb⟩
    have HF := hid (NdAns.none HND.out hb)
    clear ho hb HW HND
    go_wp2
    refine bodyPost_ret (v := .tuple #[.slice none 0 0, .int .i64 (at0 : Nat), .int .i64 (z : Nat)]) (by simp [results, Try.results15, go_sem]) rfl ?_
    exact HF.out
end Go.Proofs.Ytdphdodjidbngaa
