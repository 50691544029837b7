/- What a record's bytes are parsed to. -/
import Derived.Test.YtkepfkfoblocgaaRecM
import Derived.Test.YtkepfkfoblocgaaNumM
namespace Go.Proofs.Ytkepfkfoblocgaa
open Go.RowKit
set_option linter.unusedVariables false
set_option linter.unusedSimpArgs false

theorem cl_nat {n : Nat} (h : n ≤ 72057594037927935) : cl (n : Int) = n := by unfold cl; omega
/-- A field that is read without an error was put. -/
theorem takeS_ok (hb : Bool) (least most : Int) (l : List UInt8) (e : Int) (h : (takeS hb least most l e).2.2 = 0) :
    e = 0 ∧ l = pt hb ((takeS hb least most l e).1 : Nat) ++ (takeS hb least most l e).2.1 ∧ (((takeS hb least most l e).1 : Nat) : Int) ≤ max most 0 ∧ (if hb then least ≤ (((takeS hb least most l e).1 : Nat) : Int) else (takeS hb least most l e).1 = 0) := by
  cases hb with
  | false =>
    have h' : e = 0 := h
    refine ⟨h', ?_, ?_, ?_⟩
    · simp [takeS, pt]
    · simp [takeS]; omega
    · simp [takeS]
  | true =>
    have hR : takeS true least most l e = if ((rdNum most l e).1 : Int) < least then ((rdNum most l e).1, (rdNum most l e).2.1, rdFail 3 (rdNum most l e).2.2) else rdNum most l e := rfl
    have hlt : ¬ ((rdNum most l e).1 : Int) < least := by
      intro hlt
      rw [hR, if_pos hlt] at h
      simp only [rdFail] at h
      split at h
      · omega
      · contradiction
    rw [if_neg hlt] at hR
    rw [hR] at h ⊢
    have he : e = 0 := by
      rcases Classical.em (e = 0) with he | he
      · exact he
      · rw [rdNum, if_neg he] at h; exact h
    subst he
    have hf : (firstN most l).2.2 = 0 := by
      rcases Classical.em ((firstN most l).2.2 = 0) with hf | hf
      · exact hf
      · rw [rdNum, if_pos rfl, if_neg hf] at h; simp at h; exact h
    obtain ⟨u1, u2, n1, n2⟩ := firstN_used most l hf
    have hn := numB_firstN most l hf
    have e1 : rdNum most l 0 = ((firstN most l).1, l.drop (firstN most l).2.1, (0 : Int)) := by rw [rdNum, if_pos rfl, if_pos hf]
    rw [e1] at hlt ⊢
    refine ⟨rfl, ?_, n2, by simpa using hlt⟩
    simp only [pt, if_true]
    rw [cl_nat n1, hn, List.take_append_drop]
/-- A field that was put is read. -/
theorem takeS_pt (hb : Bool) (least most n : Int) (h0 : 0 ≤ least) (hm : most ≤ 72057594037927935) (h : inS hb least most n = true) (rest : List UInt8) : takeS hb least most (pt hb n ++ rest) 0 = (n.toNat, rest, 0) := by
  cases hb with
  | false =>
    have : n = 0 := by simpa [inS] using h
    subst this
    rfl
  | true =>
    have hn : least ≤ n ∧ n ≤ most := by simpa [inS] using h
    obtain ⟨m, rfl⟩ : ∃ m : Nat, n = m := ⟨n.toNat, by omega⟩
    have e1 : rdNum most (pt true m ++ rest) 0 = (m, rest, 0) := by
      simp only [pt, if_true]
      rw [cl_nat (by omega), rdNum, if_pos rfl, firstN_numB m (by omega) most hn.2 rest, if_pos rfl]
      simp
    rw [takeS, if_pos rfl, e1, if_neg (by simp only; omega)]
    simp
theorem inS_nonneg {hb : Bool} {least most n : Int} (h0 : 0 ≤ least) (h : inS hb least most n = true) : 0 ≤ n := by
  cases hb with
  | false => have : n = 0 := by simpa [inS] using h
             omega
  | true => have : least ≤ n ∧ n ≤ most := by simpa [inS] using h
            omega
theorem rdText_tx (s : List UInt8) (h : s.length ≤ 200) (rest : List UInt8) : rdText 200 (tx s ++ rest) 0 = (s, rest, 0) := by
  rw [tx, List.append_assoc, rdText, if_pos rfl, firstN_numB _ (by omega) _ (by omega) _, if_pos rfl, if_neg (by simp)]
  simp
theorem rdText_ok (l : List UInt8) (e : Int) (h : (rdText 200 l e).2.2 = 0) : e = 0 ∧ l = tx (rdText 200 l e).1 ++ (rdText 200 l e).2.1 := by
  have he : e = 0 := by
    rcases Classical.em (e = 0) with he | he
    · exact he
    · rw [rdText, if_neg he] at h; exact h
  subst he
  have hf : (firstN 200 l).2.2 = 0 := by
    rcases Classical.em ((firstN 200 l).2.2 = 0) with hf | hf
    · exact hf
    · rw [rdText, if_pos rfl, if_neg hf] at h; simp at h; exact h
  obtain ⟨u1, u2, n1, n2⟩ := firstN_used 200 l hf
  have hn := numB_firstN 200 l hf
  have hs : ¬ l.length - (firstN 200 l).2.1 < (firstN 200 l).1 := by
    intro hs
    rw [rdText, if_pos rfl, if_pos hf, if_pos hs] at h
    simp at h
  have e1 : rdText 200 l 0 = ((l.drop (firstN 200 l).2.1).take (firstN 200 l).1, l.drop ((firstN 200 l).2.1 + (firstN 200 l).1), (0 : Int)) := by rw [rdText, if_pos rfl, if_pos hf, if_neg hs]
  rw [e1]
  refine ⟨rfl, ?_⟩
  have hlen : ((l.drop (firstN 200 l).2.1).take (firstN 200 l).1).length = (firstN 200 l).1 := by
    rw [List.length_take, List.length_drop]; omega
  simp only [tx]
  rw [hlen, hn, List.append_assoc, ← List.drop_drop, List.take_append_drop, List.take_append_drop]
theorem rts_ok : ∀ (n : Nat) (l : List UInt8) (e : Int), (rts n l e).2.2 = 0 → e = 0 ∧ l = txs (rts n l e).1 ++ (rts n l e).2.1
  | 0, l, e, h => ⟨h, by simp [rts, txs]⟩
  | n + 1, l, e, h => by
    rw [rts_succ] at h ⊢
    obtain ⟨h1, h2⟩ := rts_ok n _ _ h
    obtain ⟨h3, h4⟩ := rdText_ok l e h1
    refine ⟨h3, ?_⟩
    have e1 : ∀ (s : List UInt8) (L : List (List UInt8)), txs (s :: L) = tx s ++ txs L := fun s L => by simp [txs]
    simp only [e1, List.append_assoc]
    rw [← h2]
    exact h4
theorem rts_txs : ∀ (ns : List (List UInt8)) (rest : List UInt8), (∀ s ∈ ns, s.length ≤ 200) → rts ns.length (txs ns ++ rest) 0 = (ns, rest, 0)
  | [], rest, _ => by simp [rts, txs]
  | s :: ns, rest, h => by
    have e1 : txs (s :: ns) ++ rest = tx s ++ (txs ns ++ rest) := by simp [txs]
    rw [e1, List.length_cons, rts_succ, rdText_tx s (h s (List.mem_cons_self ..)) _, rts_txs ns rest (fun x hx => h x (List.mem_cons_of_mem _ hx))]
theorem isK_iff {k : Int} (h : isK k = true) : 1 ≤ k ∧ k ≤ 4 := by simpa [isK] using h
theorem parse_rb (x : Rc) (h : chkR x = true) (r : List UInt8) : (qa (rb x ++ r)).1 = x.k.toNat ∧ (qj (rb x ++ r)).1 = x.j.toNat ∧ (qt (rb x ++ r)).1 = x.t.toNat ∧ (qw (rb x ++ r)).1 = x.w.toNat ∧ (qs (rb x ++ r)).1 = x.s.toNat ∧ (qe (rb x ++ r)).1 = x.e.toNat ∧ qx (rb x ++ r) = (x.ns, r, 0) := by
  obtain ⟨hK, j1, j2, h1, h2, h3, h4, h5, _⟩ := chkR_parts h
  obtain ⟨k1, k2⟩ := isK_iff hK
  have hns := (chkR_ns h).2
  have hkk : ((x.k.toNat : Nat) : Int) = x.k := by omega
  have e0 : rb x ++ r = pt true x.k ++ (pt true x.j ++ (pt (hasR x.k 1) x.t ++ (pt (hasR x.k 2) x.w ++ (pt (hasR x.k 3) x.s ++ (pt (hasR x.k 4) x.e ++ (pt (hasR x.k 5) (x.ns.length : Int) ++ (txs x.ns ++ r))))))) := by
    rw [rb, headB, show pt true x.k = numB (cl x.k) from rfl, show pt true x.j = numB (cl x.j) from rfl]
    simp only [List.append_assoc]
  have ea : qa (rb x ++ r) = (x.k.toNat, pt true x.j ++ (pt (hasR x.k 1) x.t ++ (pt (hasR x.k 2) x.w ++ (pt (hasR x.k 3) x.s ++ (pt (hasR x.k 4) x.e ++ (pt (hasR x.k 5) (x.ns.length : Int) ++ (txs x.ns ++ r)))))), 0) := by
    rw [qa, e0, takeS_pt true 1 4 x.k (by omega) (by omega) (by simp [inS]; omega)]
  have ej : qj (rb x ++ r) = (x.j.toNat, pt (hasR x.k 1) x.t ++ (pt (hasR x.k 2) x.w ++ (pt (hasR x.k 3) x.s ++ (pt (hasR x.k 4) x.e ++ (pt (hasR x.k 5) (x.ns.length : Int) ++ (txs x.ns ++ r))))), 0) := by
    rw [qj, ea]
    exact takeS_pt true 1 72057594037927935 x.j (by omega) (by omega) (by simp [inS]; omega) _
  have et : qt (rb x ++ r) = (x.t.toNat, pt (hasR x.k 2) x.w ++ (pt (hasR x.k 3) x.s ++ (pt (hasR x.k 4) x.e ++ (pt (hasR x.k 5) (x.ns.length : Int) ++ (txs x.ns ++ r)))), 0) := by
    rw [qt, ej, ea]
    simp only [hkk]
    exact takeS_pt _ _ _ x.t (by omega) (by omega) h1 _
  have ew : qw (rb x ++ r) = (x.w.toNat, pt (hasR x.k 3) x.s ++ (pt (hasR x.k 4) x.e ++ (pt (hasR x.k 5) (x.ns.length : Int) ++ (txs x.ns ++ r))), 0) := by
    rw [qw, et, ea]
    simp only [hkk]
    exact takeS_pt _ _ _ x.w (by omega) (by omega) h2 _
  have es : qs (rb x ++ r) = (x.s.toNat, pt (hasR x.k 4) x.e ++ (pt (hasR x.k 5) (x.ns.length : Int) ++ (txs x.ns ++ r)), 0) := by
    rw [qs, ew, ea]
    simp only [hkk]
    exact takeS_pt _ _ _ x.s (by omega) (by omega) h3 _
  have ee : qe (rb x ++ r) = (x.e.toNat, pt (hasR x.k 5) (x.ns.length : Int) ++ (txs x.ns ++ r), 0) := by
    rw [qe, es, ea]
    simp only [hkk]
    exact takeS_pt _ _ _ x.e (by omega) (by omega) h4 _
  have en : qn (rb x ++ r) = (x.ns.length, txs x.ns ++ r, 0) := by
    rw [qn, ee, ea]
    simp only [hkk]
    rw [takeS_pt _ _ _ (x.ns.length : Int) (by omega) (by omega) h5 _]
    rfl
  have ex : qx (rb x ++ r) = (x.ns, r, 0) := by
    rw [qx, en]
    exact rts_txs x.ns r hns
  exact ⟨by rw [ea], by rw [ej], by rw [et], by rw [ew], by rw [es], by rw [ee], ex⟩
theorem chkR_nonneg {x : Rc} (h : chkR x = true) : 0 ≤ x.k ∧ 0 ≤ x.j ∧ 0 ≤ x.t ∧ 0 ≤ x.w ∧ 0 ≤ x.s ∧ 0 ≤ x.e := by
  obtain ⟨hK, j1, j2, h1, h2, h3, h4, h5, _⟩ := chkR_parts h
  obtain ⟨k1, k2⟩ := isK_iff hK
  exact ⟨by omega, by omega, inS_nonneg (by omega) h1, inS_nonneg (by omega) h2, inS_nonneg (by omega) h3, inS_nonneg (by omega) h4⟩
/-- A valid record is parsed of its bytes, and of no longer ones. -/
theorem pr_rb {x : Rc} (h : chkR x = true) : qk (rb x) = 0 ∧ pr (rb x) = x ∧ qk (rb x ++ [0]) = 3 := by
  obtain ⟨h1, h2, h3, h4, h5, h6, h7⟩ := parse_rb x h []
  rw [List.append_nil] at h1 h2 h3 h4 h5 h6 h7
  obtain ⟨n1, n2, n3, n4, n5, n6⟩ := chkR_nonneg h
  have he : qk (rb x) = 0 := by rw [qk, h7]; rfl
  refine ⟨he, ?_, ?_⟩
  · rw [pr, if_pos he, h1, h2, h3, h4, h5, h6, h7]
    simp only [Int.toNat_of_nonneg n1, Int.toNat_of_nonneg n2, Int.toNat_of_nonneg n3, Int.toNat_of_nonneg n4, Int.toNat_of_nonneg n5, Int.toNat_of_nonneg n6]
  · obtain ⟨_, _, _, _, _, _, g7⟩ := parse_rb x h [0]
    rw [qk, g7]; rfl
theorem inS_of {hb : Bool} {lo hi : Int} {n : Nat} (h0 : 0 ≤ hi) (m : (n : Int) ≤ max hi 0) (f : if hb then lo ≤ (n : Int) else n = 0) : inS hb lo hi (n : Int) = true := by
  unfold inS
  cases hb with
  | false =>
    have : n = 0 := by simpa using f
    subst this
    rfl
  | true =>
    have : lo ≤ (n : Int) := by simpa using f
    simp; omega
/-- What is parsed is valid and has those bytes. -/
theorem pr_ok (l : List UInt8) (h : qk l = 0) : chkR (pr l) = true ∧ rb (pr l) = l := by
  have hd : (qx l).2.2 = 0 ∧ (qx l).2.1 = [] := by
    unfold qk rdEnd at h
    split at h
    · rename_i h2
      split at h
      · omega
      · rename_i h3
        exact ⟨h2, List.eq_nil_of_length_eq_zero (by omega)⟩
    · contradiction
  obtain ⟨e7, l7⟩ := rts_ok _ _ _ hd.1
  obtain ⟨hn, hs⟩ := rts_le (qn l).1 (qn l).2.1 (qn l).2.2
  obtain ⟨e6, l6, m6, f6⟩ := takeS_ok _ _ _ _ _ e7
  obtain ⟨e5, l5, m5, f5⟩ := takeS_ok _ _ _ _ _ e6
  obtain ⟨e4, l4, m4, f4⟩ := takeS_ok _ _ _ _ _ e5
  obtain ⟨e3, l3, m3, f3⟩ := takeS_ok _ _ _ _ _ e4
  obtain ⟨e2, l2, m2, f2⟩ := takeS_ok _ _ _ _ _ e3
  obtain ⟨e1, l1, m1, f1⟩ := takeS_ok _ _ _ _ _ e2
  obtain ⟨e0, l0, m0, f0⟩ := takeS_ok _ _ _ _ _ e1
  have hxl : (qx l).1.length = (qn l).1 := hn
  have hxs : ∀ s ∈ (qx l).1, s.length ≤ 200 := hs
  have g0 : (1 : Int) ≤ ((qa l).1 : Nat) := f0
  have g0' : (((qa l).1 : Nat) : Int) ≤ max 4 0 := m0
  have g1 : (1 : Int) ≤ ((qj l).1 : Nat) := f1
  have g1' : (((qj l).1 : Nat) : Int) ≤ max 72057594037927935 0 := m1
  rw [pr, if_pos h]
  refine ⟨?_, ?_⟩
  · unfold chkR
    simp only [Bool.and_eq_true, decide_eq_true_eq]
    refine ⟨⟨⟨⟨⟨⟨⟨⟨?_, g1⟩, by omega⟩, inS_of (by omega) m2 f2⟩, inS_of (by omega) m3 f3⟩, inS_of (by omega) m4 f4⟩, inS_of (by omega) m5 f5⟩, ?_⟩, ?_⟩
    · unfold isK
      simp; omega
    · rw [hxl]
      exact inS_of (by omega) m6 f6
    · unfold shortB
      rw [List.all_eq_true]
      exact fun s hs => by simpa using hxs s hs
  · have q0 : l = pt true ((qa l).1 : Nat) ++ (qa l).2.1 := l0
    have q1 : (qa l).2.1 = pt true ((qj l).1 : Nat) ++ (qj l).2.1 := l1
    have q2 : (qj l).2.1 = pt (hasR (qa l).1 1) ((qt l).1 : Nat) ++ (qt l).2.1 := l2
    have q3 : (qt l).2.1 = pt (hasR (qa l).1 2) ((qw l).1 : Nat) ++ (qw l).2.1 := l3
    have q4 : (qw l).2.1 = pt (hasR (qa l).1 3) ((qs l).1 : Nat) ++ (qs l).2.1 := l4
    have q5 : (qs l).2.1 = pt (hasR (qa l).1 4) ((qe l).1 : Nat) ++ (qe l).2.1 := l5
    have q6 : (qe l).2.1 = pt (hasR (qa l).1 5) ((qn l).1 : Nat) ++ (qn l).2.1 := l6
    have q7 : (qn l).2.1 = txs (qx l).1 ++ (qx l).2.1 := l7
    rw [hd.2, List.append_nil] at q7
    rw [q7] at q6
    rw [q6] at q5
    rw [q5] at q4
    rw [q4] at q3
    rw [q3] at q2
    rw [q2] at q1
    have q : l = pt true ((qa l).1 : Nat) ++ (pt true ((qj l).1 : Nat) ++ (pt (hasR (qa l).1 1) ((qt l).1 : Nat) ++ (pt (hasR (qa l).1 2) ((qw l).1 : Nat) ++ (pt (hasR (qa l).1 3) ((qs l).1 : Nat) ++ (pt (hasR (qa l).1 4) ((qe l).1 : Nat) ++ (pt (hasR (qa l).1 5) ((qn l).1 : Nat) ++ txs (qx l).1)))))) := by rw [← q1]; exact q0
    rw [rb, headB]
    simp only [hxl]
    conv => rhs; rw [q]
    rw [show pt true ((qa l).1 : Nat) = numB (cl ((qa l).1 : Nat)) from rfl, show pt true ((qj l).1 : Nat) = numB (cl ((qj l).1 : Nat)) from rfl]
    simp only [List.append_assoc]
end Go.Proofs.Ytkepfkfoblocgaa
