/- Needs: the document's depth, values, asks: contracts. -/
import Derived.Test.YtdphdodjidbngaaNeeF
import Derived.Lib.MinMax
namespace Go.Proofs.Ytdphdodjidbngaa
open Go.RowKit Go.Sort
set_option linter.unusedVariables false
set_option linter.unusedSimpArgs false

/-- The node that stands last in a tree's list. -/
def lastN : Nt → Int × Int
  | .yes => (1, 0)
  | .attr n => (2, n)
  | .not _ => (3, 0)
  | .pair op _ _ => (op, 0)
theorem last_at (t : Nt) (pre post : List (Int × Int)) (e : Nat) (he : e + 1 = pre.length + t.flat.length) : ∃ h : e < (pre ++ (t.flat ++ post)).length, (pre ++ (t.flat ++ post))[e] = lastN t := by
  have hp := t.flat_pos
  have h : e < (pre ++ (t.flat ++ post)).length := by simp; omega
  refine ⟨h, ?_⟩
  rw [List.getElem_append_right (by omega)]
  rw [List.getElem_append_left (by omega)]
  cases t with
  | yes => simp only [Nt.flat, List.length_singleton] at he; simp only [Nt.flat, lastN]; simp [show e - pre.length = 0 by omega]
  | attr n => simp only [Nt.flat, List.length_singleton] at he; simp only [Nt.flat, lastN]; simp [show e - pre.length = 0 by omega]
  | not t =>
    simp only [Nt.flat, List.length_append, List.length_singleton] at he
    simp only [Nt.flat, lastN]
    rw [List.getElem_append_right (by omega)]
    simp [show e - pre.length - t.flat.length = 0 by omega]
  | pair op a b =>
    simp only [Nt.flat, List.length_append, List.length_singleton] at he
    simp only [Nt.flat, lastN]
    rw [List.getElem_append_right (by omega), List.getElem_append_right (by omega)]
    simp [show e - pre.length - a.flat.length - b.flat.length = 0 by omega]
theorem Sl.at2 {w : World} {A : Option Addr} {len cap : Nat} {l : List (Int × Int)} (h : Sl w 2 A len cap (pcells l)) (k : Nat) (hk : k < l.length) : ∃ b off, A = some ⟨b, off, none⟩ ∧ w.cell? ⟨b, off + k * 2, none⟩ = some (.int .i64 l[k].1) ∧ w.cell? ⟨b, off + k * 2 + 1, none⟩ = some (.int .i64 l[k].2) := by
  obtain ⟨b, off, rfl⟩ : ∃ b off, A = some ⟨b, off, none⟩ := by
    obtain ⟨b, off, ha, _⟩ := h.2.2.2 (by rw [pcells_length]; omega)
    exact ⟨b, off, ha⟩
  exact ⟨b, off, rfl, h.pair k hk⟩

set_option maxRecDepth 20000 in
set_option maxHeartbeats 4000000 in
theorem depth0_any (A : Option Addr) (cap : Nat) (l : List (Int × Int)) (W : World) (h : Sl W 2 A l.length cap (pcells l)) (hl : l.length ≤ 1000) :
    ∀ (t : Nt) (pre post : List (Int × Int)) (e : Nat), t.wf → l = pre ++ (t.flat ++ post) → e + 1 = pre.length + t.flat.length →
    Calls Try.prog 49 #[.slice A l.length cap, .int .i64 (e : Int)] W fun x w' => x = .returned (.int .i64 (t.depth : Nat)) ∧ W = w' := by
  intro t
  have HS := hid h
  have HP := hid parts0_any
  have hl9 : (l.length : Int) ≤ 1000 := by omega
  have leaf : ∀ (op n : Int) (e : Nat) (he : e < l.length), l[e] = (op, n) → arN op = 0 → Calls Try.prog 49 #[.slice A l.length cap, .int .i64 (e : Int)] W fun x w' => x = .returned (.int .i64 1) ∧ W = w' := by
    intro op n e he hx ha
    obtain ⟨bb, off, rfl, hc0, hc1⟩ := HS.out.at2 e he
    rw [hx] at hc0 hc1
    simp only at hc0 hc1
    have he3 : (e : Int) < (l.length : Int) := by omega
    have HPC := hid (HP.out op W)
    rw [ha] at HPC
    clear hx HS h
    go_enter Try.func49, Try.ntmps49
    go_wp2_with (go_at_call 73; refine HPC.out.mono ?_; rintro x w' ⟨rfl, rfl⟩)
    go_ret
    exact ⟨rfl, rfl⟩
  have LEAF := hid leaf
  clear leaf
  induction t with
  | yes =>
    intro pre post e hw hl0 he
    obtain ⟨h1, h2⟩ := last_at .yes pre post e he
    exact LEAF.out 1 0 e (by rw [hl0]; exact h1) (by simp only [hl0]; exact h2) rfl
  | attr n =>
    intro pre post e hw hl0 he
    obtain ⟨h1, h2⟩ := last_at (.attr n) pre post e he
    exact LEAF.out 2 n e (by rw [hl0]; exact h1) (by simp only [hl0]; exact h2) rfl
  | not t ih =>
    intro pre post e hw hl0 he
    obtain ⟨h1, h2⟩ := last_at (.not t) pre post e he
    have hp := t.flat_pos
    obtain ⟨e', rfl⟩ : ∃ e', e = e' + 1 := ⟨e - 1, by simp [Nt.flat] at he; omega⟩
    have HR := hid (ih pre ([(3, 0)] ++ post) e' hw (by rw [hl0]; simp [Nt.flat]) (by simp [Nt.flat] at he; omega))
    have hlt : e' + 1 < l.length := by rw [hl0]; exact h1
    obtain ⟨bb, off, rfl, hc0, hc1⟩ := HS.out.at2 (e' + 1) hlt
    have hx : l[e' + 1] = (3, 0) := by simp only [hl0]; exact h2
    rw [hx] at hc0 hc1
    simp only at hc0 hc1
    have he3 : (e' : Int) + 1 < (l.length : Int) := by omega
    have hd9 : t.depth ≤ 1000 := by have := t.depth_le; have : t.flat.length ≤ l.length := by rw [hl0]; simp [Nt.flat]; omega
                                    omega
    have HPC := hid (HP.out 3 W)
    rw [show arN 3 = 1 from rfl] at HPC
    have HV : Hid ((Nt.not t).depth = t.depth + 1) := hid rfl
    generalize (Nt.not t).depth = d2 at *
    generalize t.depth = d at *
    clear hx HS h hl0 h2 ih LEAF h1 hlt hw
    rw [show ((e' + 1 : Nat) : Int) = (e' : Int) + 1 by omega]
    have hw0 : ((e' : Int) + 1).toNat = e' + 1 := by omega
    have h00 : (0 : Int) ≤ (e' : Int) + 1 := by omega
    have hd8 : (d : Int) ≤ 1000 := by omega
    go_enter Try.func49, Try.ntmps49
    go_wp2_with fail
    refine HPC.out.mono ?_
    rintro x w' ⟨rfl, rfl⟩
    go_wp2_with fail
    refine HR.out.mono ?_
    rintro x w' ⟨rfl, rfl⟩
    go_wp2_with fail
    go_ret
    exact ⟨by rw [HV.out]; rfl, rfl⟩
  | pair op a b iha ihb =>
    intro pre post e hw hl0 he
    obtain ⟨h1, h2⟩ := last_at (.pair op a b) pre post e he
    have hp := a.flat_pos
    have hq := b.flat_pos
    obtain ⟨e2, rfl⟩ : ∃ e', e = e' + 1 := ⟨e - 1, by simp [Nt.flat] at he; omega⟩
    obtain ⟨e1, he1⟩ : ∃ e1, e1 + 1 = pre.length + a.flat.length := ⟨pre.length + a.flat.length - 1, by omega⟩
    have he2 : e2 + 1 = (pre ++ a.flat).length + b.flat.length := by simp [Nt.flat] at he ⊢; omega
    have HRb := hid (ihb (pre ++ a.flat) ([(op, 0)] ++ post) e2 hw.2.2 (by rw [hl0]; simp [Nt.flat]) he2)
    have HRa := hid (iha pre (b.flat ++ ([(op, 0)] ++ post)) e1 hw.2.1 (by rw [hl0]; simp [Nt.flat]) he1)
    have hlt : e2 + 1 < l.length := by rw [hl0]; exact h1
    have HBG := hid (begin_any A cap l e2 W HS.out hl (by omega))
    have hbg : beginN l (e2 + 1) = ((e1 + 1 : Nat) : Int) := by
      rw [hl0, show pre ++ ((Nt.pair op a b).flat ++ post) = (pre ++ a.flat) ++ (b.flat ++ ([(op, 0)] ++ post)) by simp [Nt.flat], he2, begin_flat _ _ _ hw.2.2, he1]
      simp
    rw [hbg] at HBG
    obtain ⟨bb, off, rfl, hc0, hc1⟩ := HS.out.at2 (e2 + 1) hlt
    have hx : l[e2 + 1] = (op, 0) := by simp only [hl0]; exact h2
    rw [hx] at hc0 hc1
    simp only at hc0 hc1
    have he3 : (e2 : Int) + 1 < (l.length : Int) := by omega
    have hla : a.flat.length + b.flat.length ≤ l.length := by rw [hl0]; simp [Nt.flat]; omega
    have hd9 : a.depth ≤ 1000 := by have := a.depth_le; omega
    have hd7 : b.depth ≤ 1000 := by have := b.depth_le; omega
    have he19 : e1 ≤ 1000 := by have : e1 + 1 ≤ l.length := by rw [hl0]; simp [Nt.flat]; omega
                                omega
    have ho : arN op = 2 := by rcases hw.1 with rfl | rfl <;> rfl
    have HPC := hid (HP.out op W)
    rw [ho] at HPC
    have HV : Hid ((Nt.pair op a b).depth = max a.depth b.depth + 1) := hid rfl
    generalize (Nt.pair op a b).depth = d2 at *
    generalize a.depth = da at *
    generalize b.depth = db at *
    clear hx HS h hl0 h2 iha ihb LEAF h1 hlt hw ho hbg he he1 he2 hla
    rw [show ((e2 + 1 : Nat) : Int) = (e2 : Int) + 1 by omega]
    rw [show ((e1 + 1 : Nat) : Int) = (e1 : Int) + 1 by omega] at HBG
    have hw0 : ((e2 : Int) + 1).toNat = e2 + 1 := by omega
    have h00 : (0 : Int) ≤ (e2 : Int) + 1 := by omega
    have hd8 : (da : Int) ≤ 1000 := by omega
    have hd6 : (db : Int) ≤ 1000 := by omega
    have he18 : (e1 : Int) ≤ 1000 := by omega
    go_enter Try.func49, Try.ntmps49
    go_wp2_with fail
    refine HPC.out.mono ?_
    rintro x w' ⟨rfl, rfl⟩
    go_wp2_with fail
    refine HRb.out.mono ?_
    rintro x w' ⟨rfl, rfl⟩
    go_wp2_with fail
    refine HBG.out.mono ?_
    rintro x w' ⟨rfl, rfl⟩
    go_wp2_with fail
    refine HRa.out.mono ?_
    rintro x w' ⟨rfl, rfl⟩
    go_wp2_with fail
    go_ret
    exact ⟨by
      rw [HV.out]
      have e9 : (((max da db + 1 : Nat)) : Int) = max (db : Int) (da : Int) + 1 := by omega
      rw [e9]
      rfl, rfl⟩

end Go.Proofs.Ytdphdodjidbngaa

