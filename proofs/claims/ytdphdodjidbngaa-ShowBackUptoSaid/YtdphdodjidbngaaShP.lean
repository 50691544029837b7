/- show: the words of a need's text: mathematics. -/
import Derived.Test.YtdphdodjidbngaaShQ
import Derived.Test.YtdphdodjidbngaaLxP
import Derived.Test.YtdphdodjidbngaaNeQ
import Derived.Test.YtdphdodjidbngaaQReaM
import Derived.Test.YtdphdodjidbngaaQNamN
import Derived.Test.YtdphdodjidbngaaQReaT
namespace Go.Proofs.Ytdphdodjidbngaa
open Go.RowKit
set_option linter.unusedVariables false
set_option linter.unusedSimpArgs false

/-- What follows a word and is no part of it. -/
def NoL (rest : List UInt8) : Prop := ∀ c y, rest = c :: y → c.toNat < 128 ∧ ¬ LetP (c.toNat : Int)
theorem noL_run (L : List UInt8) (q : Nat) (rest : List UInt8) (hr : NoL rest) (hd : L.drop q = rest) (ws : List Wd) (run : Bool) (k : Nat) : lexF L ws run k (rns L q) = lexF L ws false k (rns L q) := by
  cases run with
  | false => rfl
  | true =>
    refine lexF_run L ws k _ (fun r rs' he => ?_)
    cases rest with
    | nil =>
      rw [rns_end L q (by simpa using hd)] at he
      cases he
    | cons c y =>
      have hlt : q < L.length := drop_lt hd (by simp)
      have h9 := hr c y rfl
      have h1 := one_byte c y h9.1
      rw [rns_step L q hlt, hd, h1.1, h1.2, List.cons.injEq] at he
      rw [← he.1]
      exact h9.2
/-- These words a text has, whatever follows it (0), or if no letter does. -/
def Lx0 (s : List UInt8) (ts : List (List UInt8)) : Prop :=
  ∀ (L : List UInt8) (ws : List Wd) (k p : Nat) (rest : List UInt8), L.drop p = s ++ rest → ∃ us k', us.map (·.1) = ts ∧ lexF L ws false k (rns L p) = lexF L (ws ++ us) false k' (rns L (p + s.length))
def Lx (s : List UInt8) (ts : List (List UInt8)) : Prop :=
  ∀ (L : List UInt8) (ws : List Wd) (k p : Nat) (rest : List UInt8), NoL rest → L.drop p = s ++ rest → ∃ us k', us.map (·.1) = ts ∧ lexF L ws false k (rns L p) = lexF L (ws ++ us) false k' (rns L (p + s.length))
theorem Lx0.lx {s ts} (h : Lx0 s ts) : Lx s ts := fun L ws k p rest _ hd => h L ws k p rest hd
theorem lx_word {t : List UInt8} {n : Nat} (hT : Tx t n) : Lx t [t] := fun L ws k p rest hr hd => by
  obtain ⟨run, h⟩ := lexF_word L ws k p t n rest hT hd
  exact ⟨[(t, k)], k + n, rfl, by rw [h, noL_run L _ rest hr (drop_app hd)]⟩
theorem lx_sig (c : Nat) (hc : SigP (c : Int)) : Lx0 [UInt8.ofNat c] [[UInt8.ofNat c]] := fun L ws k p rest hd => by
  have hlt : p < L.length := drop_lt hd (by simp)
  have hc7 : c < 128 := by unfold SigP at hc; omega
  have h1 := one_byte (UInt8.ofNat c) rest (by rw [ofNat_lt c hc7]; omega)
  rw [ofNat_lt c hc7, ← List.singleton_append, ← hd] at h1
  refine ⟨[([UInt8.ofNat c], k)], k + 1, rfl, ?_⟩
  rw [rns_step L p hlt, h1.1, h1.2, lexF_sig L ws false k _ _ (by show ¬ LetP (c : Int); unfold SigP at hc; unfold LetP; omega) hc]
  rfl
theorem lx_blank : Lx0 [32] [] := fun L ws k p rest hd => by
  have hlt : p < L.length := drop_lt hd (by simp)
  have h3 := one_byte 32 rest (by decide)
  rw [← List.singleton_append, ← hd] at h3
  refine ⟨[], k + 1, rfl, ?_⟩
  rw [rns_step L _ hlt, h3.1, h3.2, lexF_blank L _ _ _ _ _ rfl, List.append_nil]
  rfl
theorem drop_mid {L : List UInt8} {p : Nat} {a b rest : List UInt8} (hd : L.drop p = (a ++ b) ++ rest) : L.drop p = a ++ (b ++ rest) := by rw [hd, List.append_assoc]
theorem Lx0.cat {a b us vs} (ha : Lx0 a us) (hb : Lx b vs) : Lx (a ++ b) (us ++ vs) := fun L ws k p rest hr hd => by
  have hd := drop_mid hd
  obtain ⟨xs, k1, e1, h1⟩ := ha L ws k p _ hd
  obtain ⟨ys, k2, e2, h2⟩ := hb L (ws ++ xs) k1 (p + a.length) rest hr (drop_app hd)
  exact ⟨xs ++ ys, k2, by rw [List.map_append, e1, e2], by rw [h1, h2, List.append_assoc, List.length_append, Nat.add_assoc]⟩
theorem Lx0.cat0 {a b us vs} (ha : Lx0 a us) (hb : Lx0 b vs) : Lx0 (a ++ b) (us ++ vs) := fun L ws k p rest hd => by
  have hd := drop_mid hd
  obtain ⟨xs, k1, e1, h1⟩ := ha L ws k p _ hd
  obtain ⟨ys, k2, e2, h2⟩ := hb L (ws ++ xs) k1 (p + a.length) rest (drop_app hd)
  exact ⟨xs ++ ys, k2, by rw [List.map_append, e1, e2], by rw [h1, h2, List.append_assoc, List.length_append, Nat.add_assoc]⟩
/-- A text that begins with no letter. -/
def Beg (b : List UInt8) : Prop := ∃ c y, b = c :: y ∧ c.toNat < 128 ∧ ¬ LetP (c.toNat : Int)
theorem Beg.noL {b : List UInt8} (h : Beg b) (rest : List UInt8) : NoL (b ++ rest) := by
  obtain ⟨c, y, rfl, h1, h2⟩ := h
  intro c' y' he
  rw [List.cons_append, List.cons.injEq] at he
  rw [← he.1]
  exact ⟨h1, h2⟩
theorem Lx.cat {a b us vs} (ha : Lx a us) (hb : Lx b vs) (hB : Beg b) : Lx (a ++ b) (us ++ vs) := fun L ws k p rest hr hd => by
  have hd := drop_mid hd
  obtain ⟨xs, k1, e1, h1⟩ := ha L ws k p _ (hB.noL rest) hd
  obtain ⟨ys, k2, e2, h2⟩ := hb L (ws ++ xs) k1 (p + a.length) rest hr (drop_app hd)
  exact ⟨xs ++ ys, k2, by rw [List.map_append, e1, e2], by rw [h1, h2, List.append_assoc, List.length_append, Nat.add_assoc]⟩

/-- The words of a need's text. -/
def parW (op : Int) (ops : List Int) (ws : List (List UInt8)) : List (List UInt8) := if op ∈ ops then [40] :: (ws ++ [[41]]) else ws
def wrd (T : List (List UInt8)) : Nt → List (List UInt8)
  | .yes => [[42]]
  | .attr n => [T.getD n.toNat []]
  | .not t => [33] :: parW (lastN t).1 [4, 5] (wrd T t)
  | .pair op a b => if op = 4 then parW (lastN a).1 [5] (wrd T a) ++ ([38] :: parW (lastN b).1 [4, 5] (wrd T b)) else parW (lastN a).1 [] (wrd T a) ++ ([124] :: parW (lastN b).1 [5] (wrd T b))
theorem lx_par {op ops s ws} (h : Lx s ws) : Lx (parS op ops s) (parW op ops ws) := by
  unfold parS parW
  split
  · exact (lx_sig 40 (by unfold SigP; omega)).cat (h.cat (lx_sig 41 (by unfold SigP; omega)).lx ⟨41, [], rfl, by decide, by unfold LetP; decide⟩)
  · exact h
theorem lx_mid (c : Nat) (hc : SigP (c : Int)) {a b us vs} (ha : Lx a us) (hb : Lx b vs) : Lx ((a ++ [32, UInt8.ofNat c, 32]) ++ b) (us ++ ([UInt8.ofNat c] :: vs)) := by
  have h1 : Lx0 [32, UInt8.ofNat c, 32] [[UInt8.ofNat c]] := lx_blank.cat0 ((lx_sig c hc).cat0 lx_blank)
  have h2 : Lx ([32, UInt8.ofNat c, 32] ++ b) ([UInt8.ofNat c] :: vs) := h1.cat hb
  rw [List.append_assoc]
  exact ha.cat h2 ⟨32, UInt8.ofNat c :: 32 :: b, rfl, by decide, by unfold LetP; decide⟩
/-- Each name of the table is a word. -/
def WrdT (T : List (List UInt8)) : Prop := ∀ s ∈ T, ∃ n, LetW s n
theorem getD_mem' {T : List (List UInt8)} {n : Nat} (h : n < T.length) : T.getD n [] ∈ T := by
  rw [List.getD_eq_getElem?_getD, List.getElem?_eq_getElem h]
  exact List.getElem_mem h
theorem lx_txt {T : List (List UInt8)} (hT : WrdT T) : ∀ t : Nt, inT T.length t → Lx (txt T t) (wrd T t)
  | .yes, _ => (lx_sig 42 (by unfold SigP; omega)).lx
  | .attr n, h => by
    obtain ⟨k, hk⟩ := hT _ (getD_mem' h.2)
    exact lx_word (.inr hk)
  | .not t, h => (lx_sig 33 (by unfold SigP; omega)).cat (lx_par (lx_txt hT t h))
  | .pair op a b, h => by
    have ha := lx_txt hT a h.1
    have hb := lx_txt hT b h.2
    rw [txt, wrd]
    split
    · exact lx_mid 38 (by unfold SigP; omega) (lx_par ha) (lx_par hb)
    · exact lx_mid 124 (by unfold SigP; omega) (lx_par ha) (lx_par hb)
/-- The words of the whole. -/
theorem lexF_txt {T : List (List UInt8)} (hT : WrdT T) (t : Nt) (h : inT T.length t) : ∃ us, us.map (·.1) = wrd T t ∧ lexF (txt T t) [] false 0 (rns (txt T t) 0) = (us, 0, 0) := by
  obtain ⟨us, k, e, h1⟩ := lx_txt hT t h (txt T t) [] 0 0 [] (fun c y he => by cases he) (by simp)
  refine ⟨us, e, ?_⟩
  rw [h1, rns_end _ _ (by simp)]
  rfl
theorem lexW_txt {T : List (List UInt8)} (hT : WrdT T) (t : Nt) (h : inT T.length t) (hl : (txt T t).length ≤ 200) : ∃ us, us.map (·.1) = wrd T t ∧ lexW (txt T t) = (us, 0, 0) := by
  obtain ⟨us, e, h1⟩ := lexF_txt hT t h
  exact ⟨us, e, by rw [lexW, if_neg (by omega), h1]⟩
end Go.Proofs.Ytdphdodjidbngaa

namespace Go.Proofs.Ytdphdodjidbngaa
open Go.RowKit
set_option linter.unusedVariables false
set_option linter.unusedSimpArgs false

/-- More fuel than enough is as good. -/
def Ev (T : List (List UInt8)) (E : Nat) (m : Md) (ws : List Wd) (o : List (Int × Int)) (R : RdR) : Prop := ∃ N, ∀ n, N ≤ n → rp T E n m ws o = R
variable {T : List (List UInt8)} {E : Nat}
theorem ev_all {ws o rest o' R} (h : Ev T E .one ws o (.ok rest o')) (h2 : Ev T E .allL rest o' R) : Ev T E .all ws o R := by
  obtain ⟨N, h⟩ := h
  obtain ⟨M, h2⟩ := h2
  refine ⟨max N M + 1, fun n hn => ?_⟩
  obtain ⟨n, rfl⟩ : ∃ k, n = k + 1 := ⟨n - 1, by omega⟩
  rw [rp_all, h n (by omega)]
  exact h2 n (by omega)
theorem ev_any {ws o rest o' R} (h : Ev T E .all ws o (.ok rest o')) (h2 : Ev T E .anyL rest o' R) : Ev T E .any ws o R := by
  obtain ⟨N, h⟩ := h
  obtain ⟨M, h2⟩ := h2
  refine ⟨max N M + 1, fun n hn => ?_⟩
  obtain ⟨n, rfl⟩ : ∃ k, n = k + 1 := ⟨n - 1, by omega⟩
  rw [rp_any, h n (by omega)]
  exact h2 n (by omega)
theorem ev_allE {ws : List Wd} {o} (h : hdW ws ≠ [38]) : Ev T E .allL ws o (.ok ws o) := by
  refine ⟨1, fun n hn => ?_⟩
  obtain ⟨n, rfl⟩ : ∃ k, n = k + 1 := ⟨n - 1, by omega⟩
  rw [rp_allL, if_neg h]
theorem ev_anyE {ws : List Wd} {o} (h : hdW ws ≠ [124]) : Ev T E .anyL ws o (.ok ws o) := by
  refine ⟨1, fun n hn => ?_⟩
  obtain ⟨n, rfl⟩ : ∃ k, n = k + 1 := ⟨n - 1, by omega⟩
  rw [rp_anyL, if_neg h]
theorem ev_allS {w : Wd} {ws o rest o' R} (hw : w.1 = [38]) (h : Ev T E .one ws o (.ok rest o')) (h2 : Ev T E .allL rest (o' ++ [(4, 0)]) R) : Ev T E .allL (w :: ws) o R := by
  obtain ⟨N, h⟩ := h
  obtain ⟨M, h2⟩ := h2
  refine ⟨max N M + 1, fun n hn => ?_⟩
  obtain ⟨n, rfl⟩ : ∃ k, n = k + 1 := ⟨n - 1, by omega⟩
  rw [rp_allL, if_pos (show hdW (w :: ws) = [38] from hw), List.tail_cons, h n (by omega)]
  exact h2 n (by omega)
theorem ev_anyS {w : Wd} {ws o rest o' R} (hw : w.1 = [124]) (h : Ev T E .all ws o (.ok rest o')) (h2 : Ev T E .anyL rest (o' ++ [(5, 0)]) R) : Ev T E .anyL (w :: ws) o R := by
  obtain ⟨N, h⟩ := h
  obtain ⟨M, h2⟩ := h2
  refine ⟨max N M + 1, fun n hn => ?_⟩
  obtain ⟨n, rfl⟩ : ∃ k, n = k + 1 := ⟨n - 1, by omega⟩
  rw [rp_anyL, if_pos (show hdW (w :: ws) = [124] from hw), List.tail_cons, h n (by omega)]
  exact h2 n (by omega)
theorem ev_yes {w : Wd} {ws o} (hw : w.1 = [42]) : Ev T E .one (w :: ws) o (.ok ws (o ++ [(1, 0)])) := by
  refine ⟨1, fun n hn => ?_⟩
  obtain ⟨n, rfl⟩ : ∃ k, n = k + 1 := ⟨n - 1, by omega⟩
  rw [rp_yes _ _ _ _ _ (show hdW (w :: ws) = [42] from hw), List.tail_cons]
theorem ev_not {w : Wd} {ws o rest o'} (hw : w.1 = [33]) (h : Ev T E .one ws o (.ok rest o')) : Ev T E .one (w :: ws) o (.ok rest (o' ++ [(3, 0)])) := by
  obtain ⟨N, h⟩ := h
  refine ⟨N + 1, fun n hn => ?_⟩
  obtain ⟨n, rfl⟩ : ∃ k, n = k + 1 := ⟨n - 1, by omega⟩
  rw [rp_not _ _ _ _ _ (show hdW (w :: ws) = [33] from hw), List.tail_cons, h n (by omega)]
  rfl
theorem ev_par {w v : Wd} {ws o rest o'} (hw : w.1 = [40]) (hv : v.1 = [41]) (h : Ev T E .any ws o (.ok (v :: rest) o')) : Ev T E .one (w :: ws) o (.ok rest o') := by
  obtain ⟨N, h⟩ := h
  refine ⟨N + 1, fun n hn => ?_⟩
  obtain ⟨n, rfl⟩ : ∃ k, n = k + 1 := ⟨n - 1, by omega⟩
  rw [rp_par _ _ _ _ _ (show hdW (w :: ws) = [40] from hw), List.tail_cons, h n (by omega), RdR.shut]
  rw [if_pos (show hdW (v :: rest) = [41] from hv), List.tail_cons]
theorem ev_name {w : Wd} {ws o} {k : Int} (hw : IsN w.1) (hk : placeJ T w.1 = k) (h0 : 0 ≤ k) (h15 : k < 16) : Ev T E .one (w :: ws) o (.ok ws (o ++ [(2, k)])) := by
  refine ⟨1, fun n hn => ?_⟩
  obtain ⟨n, rfl⟩ : ∃ k, n = k + 1 := ⟨n - 1, by omega⟩
  rw [rp_name _ _ _ _ _ (show IsN (hdW (w :: ws)) from hw), show hdW (w :: ws) = w.1 from rfl, hk, if_neg (by omega), List.tail_cons]
/-- A word of letters is no sign. -/
theorem letW_isN {t : List UInt8} {n : Nat} (h : LetW t n) : IsN t := by
  obtain ⟨bs, h0, hb, rfl, _⟩ := h
  match bs, h0, hb with
  | b :: bs, _, hb =>
    have hb0 := hb b (List.mem_cons_self ..)
    have ha := isLet_app b bs.flatten hb0
    rw [← List.flatten_cons] at ha
    generalize (b :: bs).flatten = s at ha
    have hs : ∀ c : UInt8, c.toNat < 128 → ¬ LetP (c.toNat : Int) → s ≠ [c] := fun c hc hn he => by
      subst he
      have h1 := one_byte c [] hc
      have h2 := ha.2.1
      rw [h1.1, h1.2] at h2
      exact hn h2
    refine ⟨fun he => ?_, hs 41 (by decide) (by unfold LetP; decide), hs 38 (by decide) (by unfold LetP; decide), hs 124 (by decide) (by unfold LetP; decide), hs 33 (by decide) (by unfold LetP; decide), hs 40 (by decide) (by unfold LetP; decide), hs 42 (by decide) (by unfold LetP; decide)⟩
    subst he
    have h3 := ha.2.2
    rw [List.take_nil] at h3
    have h4 := hb0.1
    rw [← h3] at h4
    cases h4

theorem map_cons_inv {us : List Wd} {a : List UInt8} {l : List (List UInt8)} (h : us.map (·.1) = a :: l) : ∃ w vs, us = w :: vs ∧ w.1 = a ∧ vs.map (·.1) = l := by
  cases us with
  | nil => cases h
  | cons w vs =>
    rw [List.map_cons, List.cons.injEq] at h
    exact ⟨w, vs, rfl, h.1, h.2⟩
theorem map_app_inv {us : List Wd} {a b : List (List UInt8)} (h : us.map (·.1) = a ++ b) : ∃ xs ys, us = xs ++ ys ∧ xs.map (·.1) = a ∧ ys.map (·.1) = b := by
  refine ⟨us.take a.length, us.drop a.length, (List.take_append_drop ..).symm, ?_, ?_⟩
  · rw [List.map_take, h, List.take_left']
    rfl
  · rw [List.map_drop, h, List.drop_left']
    rfl
theorem map_nil_inv {us : List Wd} (h : us.map (·.1) = []) : us = [] := List.map_eq_nil_iff.mp h

/-- What the words of a tree are read as, at each of the three levels. -/
def R1 (T : List (List UInt8)) (E : Nat) (ts : List (List UInt8)) (f : List (Int × Int)) : Prop :=
  ∀ (us rest : List Wd) (o : List (Int × Int)), us.map (·.1) = ts → Ev T E .one (us ++ rest) o (.ok rest (o ++ f))
def R2 (T : List (List UInt8)) (E : Nat) (ts : List (List UInt8)) (f : List (Int × Int)) : Prop :=
  ∀ (us rest : List Wd) (o : List (Int × Int)) (R : RdR), us.map (·.1) = ts → Ev T E .allL rest (o ++ f) R → Ev T E .all (us ++ rest) o R
def R3 (T : List (List UInt8)) (E : Nat) (ts : List (List UInt8)) (f : List (Int × Int)) : Prop :=
  ∀ (us rest : List Wd) (o : List (Int × Int)) (R : RdR), us.map (·.1) = ts → hdW rest ≠ [38] → Ev T E .anyL rest (o ++ f) R → Ev T E .any (us ++ rest) o R
theorem R1.two {ts f} (h : R1 T E ts f) : R2 T E ts f := fun us rest o R hu hR => ev_all (h us rest o hu) hR
theorem R2.three {ts f} (h : R2 T E ts f) : R3 T E ts f := fun us rest o R hu hh hR => ev_any (h us rest o _ hu (ev_allE hh)) hR
theorem R3.par {ts f} (h : R3 T E ts f) : R1 T E ([40] :: (ts ++ [[41]])) f := fun us rest o hu => by
  obtain ⟨w, vs, rfl, hw, hv⟩ := map_cons_inv hu
  obtain ⟨xs, ys, rfl, hx, hy⟩ := map_app_inv hv
  obtain ⟨v, zs, rfl, hv1, hz⟩ := map_cons_inv hy
  obtain rfl := map_nil_inv hz
  have h9 := h xs (v :: rest) o _ hx (by show v.1 ≠ [38]; rw [hv1]; decide) (ev_anyE (by show v.1 ≠ [124]; rw [hv1]; decide))
  rw [List.cons_append, List.append_assoc]
  exact ev_par hw hv1 h9
/-- The three levels of a tree. -/
def RT (T : List (List UInt8)) (E : Nat) (t : Nt) : Prop := ((lastN t).1 ∉ [(4 : Int), 5] → R1 T E (wrd T t) t.flat) ∧ ((lastN t).1 ∉ [(5 : Int)] → R2 T E (wrd T t) t.flat) ∧ R3 T E (wrd T t) t.flat
theorem RT.p1 {t} (h : RT T E t) : R1 T E (parW (lastN t).1 [4, 5] (wrd T t)) t.flat := by
  unfold parW
  split
  · exact h.2.2.par
  · rename_i hh
    exact h.1 hh
theorem RT.p2 {t} (h : RT T E t) : R2 T E (parW (lastN t).1 [5] (wrd T t)) t.flat := by
  unfold parW
  split
  · exact h.2.2.par.two
  · rename_i hh
    exact h.2.1 hh
theorem RT.p3 {t} (h : RT T E t) : R3 T E (parW (lastN t).1 [] (wrd T t)) t.flat := by
  unfold parW
  rw [if_neg (by simp)]
  exact h.2.2
theorem RT.of1 {t} (h : R1 T E (wrd T t) t.flat) : RT T E t := ⟨fun _ => h, fun _ => h.two, h.two.three⟩
theorem rt_txt (hT : WrdT T) (hO : Once T) : ∀ t : Nt, t.wf → inT T.length t → RT T E t
  | .yes, _, _ => RT.of1 fun us rest o hu => by
    obtain ⟨w, vs, rfl, hw, hv⟩ := map_cons_inv hu
    obtain rfl := map_nil_inv hv
    exact ev_yes hw
  | .attr n, hwf, hin => RT.of1 fun us rest o hu => by
    obtain ⟨w, vs, rfl, hw, hv⟩ := map_cons_inv hu
    obtain rfl := map_nil_inv hv
    obtain ⟨k, hk⟩ := hT _ (getD_mem' hin.2)
    have h1 := hO n.toNat hin.2
    have e : T.getD n.toNat [] = T[n.toNat]'hin.2 := by rw [List.getD_eq_getElem?_getD, List.getElem?_eq_getElem hin.2]; rfl
    have hn : ((n.toNat : Nat) : Int) = n := by have := hin.1; omega
    exact ev_name (by rw [hw]; exact letW_isN hk) (by rw [hw, e, h1, hn]) hwf.1 hwf.2
  | .not t, hwf, hin => RT.of1 fun us rest o hu => by
    have ih := rt_txt hT hO t hwf hin
    obtain ⟨w, vs, rfl, hw, hv⟩ := map_cons_inv hu
    have h9 := ih.p1 vs rest o hv
    have h8 := ev_not hw h9
    rw [List.append_assoc] at h8
    exact h8
  | .pair op a b, hwf, hin => by
    have iha := rt_txt hT hO a hwf.2.1 hin.1
    have ihb := rt_txt hT hO b hwf.2.2 hin.2
    by_cases h4 : op = 4
    · subst h4
      have h2 : R2 T E (wrd T (.pair 4 a b)) (Nt.pair 4 a b).flat := fun us rest o R hu hR => by
        rw [wrd, if_pos rfl] at hu
        obtain ⟨xs, ys, rfl, hx, hy⟩ := map_app_inv hu
        obtain ⟨w, vs, rfl, hw, hv⟩ := map_cons_inv hy
        have hb := ihb.p1 vs rest (o ++ a.flat) hv
        rw [List.append_assoc]
        refine iha.p2 xs _ o R hx (ev_allS hw hb ?_)
        rw [Nt.flat] at hR
        simpa only [List.append_assoc] using hR
      exact ⟨fun h => absurd (by simp [lastN]) h, fun _ => h2, h2.three⟩
    · obtain rfl : op = 5 := by have := hwf.1; omega
      have h3 : R3 T E (wrd T (.pair 5 a b)) (Nt.pair 5 a b).flat := fun us rest o R hu hh hR => by
        rw [wrd, if_neg (by decide)] at hu
        obtain ⟨xs, ys, rfl, hx, hy⟩ := map_app_inv hu
        obtain ⟨w, vs, rfl, hw, hv⟩ := map_cons_inv hy
        have hb := ihb.p2 vs rest (o ++ a.flat) _ hv (ev_allE hh)
        rw [List.append_assoc]
        refine iha.p3 xs _ o R hx (by show w.1 ≠ [38]; rw [hw]; decide) (ev_anyS hw hb ?_)
        rw [Nt.flat] at hR
        simpa only [List.append_assoc] using hR
      exact ⟨fun h => absurd (by simp [lastN]) h, fun h => absurd (by simp [lastN]) h, h3⟩
/-- Read from the top, with any fuel that is enough. -/
theorem ev_top (hT : WrdT T) (hO : Once T) (t : Nt) (hw : t.wf) (hi : inT T.length t) (us : List Wd) (hu : us.map (·.1) = wrd T t) : Ev T E .any us [] (.ok [] t.flat) := by
  have h := (rt_txt (E := E) hT hO t hw hi).2.2 us [] [] _ hu (by show ([] : List UInt8) ≠ [38]; decide) (ev_anyE (by show ([] : List UInt8) ≠ [124]; decide))
  simpa using h
/-- Unlike trees have unlike texts. -/
theorem txt_inj (hT : WrdT T) (hO : Once T) {t u : Nt} (ht : t.wf) (hu : u.wf) (hti : inT T.length t) (hui : inT T.length u) (he : txt T t = txt T u) : t = u := by
  obtain ⟨xs, hx, h1⟩ := lexF_txt hT t hti
  obtain ⟨ys, hy, h2⟩ := lexF_txt hT u hui
  rw [he, h2] at h1
  obtain rfl : ys = xs := by injection h1
  obtain ⟨N, hN⟩ := ev_top (E := 0) hT hO t ht hti ys hx
  obtain ⟨M, hM⟩ := ev_top (E := 0) hT hO u hu hui ys hy
  have e1 := hN (max N M) (by omega)
  have e2 := hM (max N M) (by omega)
  rw [e1, RdR.ok.injEq] at e2
  exact flat_inj ht hu e2.2
end Go.Proofs.Ytdphdodjidbngaa

namespace Go.Proofs.Ytdphdodjidbngaa
open Go.RowKit
set_option linter.unusedVariables false
set_option linter.unusedSimpArgs false

theorem bind_same {r : RdR} {f g : List Wd → List (Int × Int) → RdR} (h : ∀ ws o, r = .ok ws o → f ws o = g ws o) : r.bind f = r.bind g := by
  cases r with
  | ok ws o => exact h ws o rfl
  | er k e => rfl
/-- With fuel enough one more is all one. -/
theorem rp_more (T E) : ∀ (n : Nat) (m : Md) (ws : List Wd) (o : List (Int × Int)), ndF m ws.length ≤ n → rp T E (n + 1) m ws o = rp T E n m ws o := by
  intro n
  induction n with
  | zero => intro m ws o hn; cases m <;> simp [ndF] at hn
  | succ n ih =>
    intro m ws o hn
    cases m with
    | any =>
      simp only [ndF] at hn
      rw [rp_any T E (n + 1), rp_any T E n, ih .all ws o (by simp only [ndF]; omega)]
      refine bind_same (fun ws' o' h1 => ?_)
      have k1 := (rp_short _ _ _ _ _ _ _ _ h1).2 (by simp)
      exact ih _ _ _ (by simp only [ndF]; omega)
    | all =>
      simp only [ndF] at hn
      rw [rp_all T E (n + 1), rp_all T E n, ih .one ws o (by simp only [ndF]; omega)]
      refine bind_same (fun ws' o' h1 => ?_)
      have k1 := (rp_short _ _ _ _ _ _ _ _ h1).2 (by simp)
      exact ih _ _ _ (by simp only [ndF]; omega)
    | anyL =>
      simp only [ndF] at hn
      rw [rp_anyL T E (n + 1), rp_anyL T E n]
      split
      · rename_i hh
        have h0 := hd_pos' hh (by simp)
        rw [ih .all ws.tail o (by simp only [ndF, List.length_tail]; omega)]
        refine bind_same (fun ws' o' h1 => ?_)
        obtain ⟨o'', h9, _⟩ := put_ok h1
        have k1 := (rp_short _ _ _ _ _ _ _ _ h9).1
        rw [List.length_tail] at k1
        exact ih _ _ _ (by simp only [ndF]; omega)
      · rfl
    | allL =>
      simp only [ndF] at hn
      rw [rp_allL T E (n + 1), rp_allL T E n]
      split
      · rename_i hh
        have h0 := hd_pos' hh (by simp)
        rw [ih .one ws.tail o (by simp only [ndF, List.length_tail]; omega)]
        refine bind_same (fun ws' o' h1 => ?_)
        obtain ⟨o'', h9, _⟩ := put_ok h1
        have k1 := (rp_short _ _ _ _ _ _ _ _ h9).1
        rw [List.length_tail] at k1
        exact ih _ _ _ (by simp only [ndF]; omega)
      · rfl
    | one =>
      simp only [ndF] at hn
      by_cases hb : hdW ws = [] ∨ hdW ws = [41] ∨ hdW ws = [38] ∨ hdW ws = [124]
      · rw [rp_bad T E (n + 1) ws o hb, rp_bad T E n ws o hb]
      have h0 : 0 < ws.length := hd_pos' rfl (fun e => hb (.inl e))
      by_cases h1 : hdW ws = [33]
      · rw [rp_not T E (n + 1) ws o h1, rp_not T E n ws o h1, ih .one ws.tail o (by simp only [ndF, List.length_tail]; omega)]
      by_cases h2 : hdW ws = [40]
      · rw [rp_par T E (n + 1) ws o h2, rp_par T E n ws o h2, ih .any ws.tail o (by simp only [ndF, List.length_tail]; omega)]
      by_cases h3 : hdW ws = [42]
      · rw [rp_yes T E (n + 1) ws o h3, rp_yes T E n ws o h3]
      · have h9 : IsN (hdW ws) := ⟨fun e => hb (.inl e), fun e => hb (.inr (.inl e)), fun e => hb (.inr (.inr (.inl e))), fun e => hb (.inr (.inr (.inr e))), h1, h2, h3⟩
        rw [rp_name T E (n + 1) ws o h9, rp_name T E n ws o h9]
theorem rp_add (T E) (m : Md) (ws : List Wd) (o : List (Int × Int)) (n : Nat) (h : ndF m ws.length ≤ n) : ∀ d, rp T E (n + d) m ws o = rp T E n m ws o
  | 0 => rfl
  | d + 1 => by
    rw [show n + (d + 1) = (n + d) + 1 by omega, rp_more T E (n + d) m ws o (by omega)]
    exact rp_add T E m ws o n h d
theorem ev_fuel {T E m ws o R} (h : Ev T E m ws o R) (n : Nat) (hn : ndF m ws.length ≤ n) : rp T E n m ws o = R := by
  obtain ⟨N, hN⟩ := h
  rw [← rp_add T E m ws o n hn N]
  exact hN _ (by omega)
theorem ndT_txt {T : List (List UInt8)} (hT : WrdT T) (hO : Once T) (t : Nt) (hw : t.wf) (hi : inT T.length t) (hl : (txt T t).length ≤ 200) (hc : chkN t.flat = 0) : ndT T (txt T t) = (t.flat, 0, 0) := by
  obtain ⟨us, hu, hx⟩ := lexW_txt hT t hi hl
  have h1 := ev_fuel (ev_top (E := (rns (txt T t) 0).length) hT hO t hw hi us hu) (4 * us.length + 8) (by simp only [ndF]; omega)
  refine ndT_ok (by rw [hx]) (r := []) ?_ hc
  rw [hx]
  unfold rdTop
  rw [h1]
  rfl
/-- A name is a word of letters. -/
theorem lets_of (l : List UInt8) : ∀ (d i : Nat), l.length - i ≤ d → (∀ r ∈ rns l i, LetP (r.2.1 : Int)) → ∃ bs : List (List UInt8), (∀ b ∈ bs, IsLet b) ∧ l.drop i = bs.flatten := by
  intro d
  induction d with
  | zero =>
    intro i hd h
    exact ⟨[], (fun b hb => by cases hb), by rw [List.drop_eq_nil_of_le (by omega)]; rfl⟩
  | succ d ih =>
    intro i hd h
    by_cases hi : i < l.length
    · rw [rns_step l i hi] at h
      have h1 := h _ (List.mem_cons_self ..)
      have h0 := let_whole l i h1
      obtain ⟨bs, hb, he⟩ := ih (i + max (szN (l.drop i)) 1) (by omega) (fun r hr => h r (List.mem_cons_of_mem _ hr))
      refine ⟨bytesR l i :: bs, fun b hm => ?_, ?_⟩
      · rw [List.mem_cons] at hm
        rcases hm with rfl | hm
        · exact let_bytes l i hi h1
        · exact hb b hm
      · rw [List.flatten_cons, ← he, bytesR, show max (szN (l.drop i)) 1 = szN (l.drop i) by omega, ← List.drop_drop, List.take_append_drop]
    · exact ⟨[], (fun b hb => by cases hb), by rw [List.drop_eq_nil_of_le (by omega)]; rfl⟩
theorem name_word (l : List UInt8) (h : nameR (rns l 0) = true) : ∃ n, LetW l n := by
  unfold nameR at h
  simp only [Bool.and_eq_true, List.all_eq_true, decide_eq_true_eq] at h
  obtain ⟨bs, hb, he⟩ := lets_of l l.length 0 (by omega) (fun r hr => by
    have := h.1 r hr
    unfold okR at this
    simp only [Bool.and_eq_true, decide_eq_true_eq] at this
    exact this.2)
  rw [List.drop_zero] at he
  refine ⟨bs.length, bs, fun h0 => ?_, hb, he, rfl⟩
  subst h0
  rw [List.flatten_nil] at he
  subst he
  have h3 := h.2.1.1
  rw [rns_end [] 0 (by simp)] at h3
  simp at h3
end Go.Proofs.Ytdphdodjidbngaa
