/- SlotsKeep. -/
import Derived.Test.YtadjmgmdnekllaaSltH
import Derived.Test.YtadjmgmdnekllaaRow3
import Derived.BigQuiet
import Derived.Lib.QuietBelow
import Derived.RegionTactic
import Derived.ChangeAlike
namespace Go.Proofs.Ytadjmgmdnekllaa
open Go.RowKit Go.Sort
set_option linter.unusedVariables false
set_option linter.unusedSimpArgs false

/-- What slots keep: never more than n are asked for or run. -/
def KI (n k : Nat) (s : Sv) : Prop := s.n = (n : Int) ∧ s.a.length + s.r.length ≤ n ∧ s.o.length ≤ k
theorem KI.ok {n k : Nat} {s : Sv} (h : KI n k s) (hn : n ≤ 255) (hk : k ≤ 100) : OkV s := by
  obtain ⟨h1, h2, h3⟩ := h
  exact ⟨by omega, by omega, by omega, by omega⟩
theorem KI.free {n k : Nat} {s : Sv} (h : KI n k s) : freeV s = (n : Int) - (s.a.length : Int) - (s.r.length : Int) := by
  obtain ⟨h1, h2, _⟩ := h
  unfold freeV
  split <;> omega
theorem KI.ask {n k : Nat} {s : Sv} (h : KI n k s) (j x : Int) : KI n (k + 1) (askV s j x).1 := by
  have hf := h.free
  obtain ⟨h1, h2, h3⟩ := h
  unfold askV
  split
  · exact ⟨h1, h2, Nat.le_succ_of_le h3⟩
  · rename_i hc
    have : freeV s ≠ 0 := fun e => hc (.inl e)
    refine ⟨h1, ?_, by simp only; omega⟩
    simp only [List.length_append, List.length_cons, List.length_nil]
    omega
theorem KI.none {n k : Nat} {s : Sv} (h : KI n k s) (j : Int) : KI n (k + 1) (noneV s j).1 := by
  obtain ⟨h1, h2, h3⟩ := h
  have := dropJ_len s.a j
  exact ⟨h1, by simp only [noneV]; omega, by simp only [noneV]; omega⟩
theorem dropJ_lt {l : List (Int × Int)} {j : Int} (h : hasJ l j = true) : (dropJ l j).length < l.length := by
  obtain ⟨k, hk, he⟩ := (hasJ_iff l j).1 h
  unfold dropJ
  exact List.length_filter_lt_length_iff_exists.2 ⟨l[k], List.getElem_mem hk, by simp [he]⟩
theorem KI.give {n k : Nat} {s : Sv} (h : KI n k s) (t : Int × Int) : KI n (k + 1) (giveV s t).1 := by
  have hN := h.none t.1
  have hf := hN.free
  obtain ⟨h1, h2, h3⟩ := h
  have hd := dropJ_len s.a t.1
  unfold giveV
  split
  · refine ⟨h1, by simp only; omega, ?_⟩
    simp only [List.length_append, List.length_cons, List.length_nil]
    omega
  · rename_i hc
    rw [hf] at hc
    simp only [noneV] at hc
    refine ⟨h1, ?_, by simp only; omega⟩
    simp only [List.length_append, List.length_cons, List.length_nil]
    omega
theorem KI.runs {n k : Nat} {s : Sv} (h : KI n k s) (t : Int × Int) (hh : hasJ s.a t.1 = true) : (giveV s t).2 = true := by
  have hf := (h.none t.1).free
  obtain ⟨h1, h2, h3⟩ := h
  have hd := dropJ_lt hh
  unfold giveV
  rw [if_neg]
  rw [hf]
  simp only [noneV]
  omega
theorem KI.next {n k : Nat} {s : Sv} (h : KI n k s) : KI n (k + 1) (nextV s).1 := by
  have hf := h.free
  obtain ⟨h1, h2, h3⟩ := h
  unfold nextV
  split
  · exact ⟨h1, h2, Nat.le_succ_of_le h3⟩
  · rename_i hc
    have : freeV s ≠ 0 := fun e => hc (.inr e)
    refine ⟨h1, ?_, ?_⟩
    · simp only [List.length_append, List.length_cons, List.length_nil]
      omega
    · simp only [List.length_eraseIdx]
      split <;> omega
theorem KI.fin {n k : Nat} {s : Sv} (h : KI n k s) (t : Int × Int) : KI n (k + 1) (endV s t).1 := by
  obtain ⟨h1, h2, h3⟩ := h
  unfold endV
  split
  · exact ⟨h1, h2, Nat.le_succ_of_le h3⟩
  · refine ⟨h1, ?_, by simp only; omega⟩
    simp only [List.length_eraseIdx]
    split <;> omega
theorem KI.move {n k : Nat} {s : Sv} (h : KI n k s) (j x : Int) : KI n (k + 1) (mvV s j x) := by
  obtain ⟨h1, h2, h3⟩ := h
  exact ⟨h1, by simp only [mvV, moveJ_len]; exact h2, by simp only [mvV]; omega⟩

/-- What the loop holds. -/
def KR (W w : World) (n k : Nat) : Prop := ∃ (s : Sv) (A O R : Option Addr) (ca co cr : Nat), KI n k s ∧ KS w W.heap.size W.heap.size s A O R ca co cr ∧ Below W.heap.size W w
theorem KR.keep {W w w' : World} {n k : Nat} (h : KR W w n k) (hb : Below w.heap.size w w') : KR W w' n k := by
  obtain ⟨s, A, O, R, ca, co, cr, h1, h2, h3⟩ := h
  exact ⟨s, A, O, R, ca, co, cr, h1, h2.keep hb, h3.trans (hb.mono h3.size)⟩
theorem KR.put {W u u' : World} {n k : Nat} {s : Sv} {A O R : Option Addr} {ca co cr : Nat} {x0 x1 x2 x3 : Value} (hx : u.heap[W.heap.size]? = some (.cells #[x0, x1, x2, x3] 116 (0, 0))) (ho : OwnW u W.heap.size s A O R ca co cr) (hi : KI n k s) (hb : Below W.heap.size W u) (he : u' = put4 u W.heap.size (.int .i64 s.n) (.slice A s.a.length ca) (.slice O s.o.length co) (.slice R s.r.length cr)) : KR W u' n k := by
  subst he
  exact ⟨s, A, O, R, ca, co, cr, hi, KS.put hx ho, put4_below hb (Nat.le_refl _) _ _ _ _⟩

set_option maxRecDepth 20000 in
set_option maxHeartbeats 16000000 in
theorem slotsKeep_small (n : Nat) (A : Option Addr) (len cap : Nat) (W : World) (h : len ≤ 100) (hn : n < 256) (f : Nat → Nat → Int)
    (hz : 0 < len → ∃ b off, A = some ⟨b, off, none⟩ ∧ ∀ i, i < len → ∀ j, j < 3 → W.cell? ⟨b, off + i * 3 + j, none⟩ = some (.int .i64 (f i j))) :
    Calls Try.prog 12 #[.int .u8 (n : Int), .slice A len cap] W fun e w' => e = .returned (.bool true) ∧ Below W.heap.size W w' := by
  have HZ := hid hz
  have hlen : (len : Int) ≤ 100 := by omega
  have hcv : ∀ w : World, (convert 5 3 (.int .u8 (n : Int))).run Try.prog w = .ok (.int .i64 (n : Int)) w := fun w => by
    rw [run_convert_int (P := Try.prog) w 5 3 .u8 (n : Int) (by rw [Try.underlying5]; rfl) Try.underlying3]
    have : IntKind.i64.wrap (n : Int) = (n : Int) := by simp [IntKind.wrap, IntKind.bits, IntKind.signed]; omega
    rw [show Try.prog.intKind 3 = .i64 by unfold Program.intKind; rw [Try.underlying3], this]
  clear hz
  go_enter Try.func12, Try.ntmps12
  go_wp2
  go_loopw [6, 7, 8, 9, 10] (fun i _ _ _ _ wr => ∃ k : Nat, k ≤ len ∧ i = .int .i64 (k : Int) ∧ Hid (KR W wr n k)) (fun i _ _ _ _ _ => len - (intOf i).toNat)
  case atStart => exact ⟨0, by omega, rfl, ⟨⟨n, [], [], []⟩, none, none, none, 0, 0, 0, ⟨rfl, Nat.zero_le _, Nat.le_refl _⟩, ⟨heap_alloc_new _ _, World.ownsRow_nil _ _ _ _, World.ownsRow_nil _ _ _ _, World.ownsRow_nil _ _ _ _⟩, (Below.refl _ _).alloc (Nat.le_refl _) _⟩⟩
  case round =>
    obtain ⟨k, hk, rfl, HK⟩ := hrel
    by_cases hlt : k < len
    · have hlt2 : (k : Int) < (len : Int) := by omega
      obtain ⟨b, off, rfl, hcl⟩ := HZ.out (by omega)
      have hbr : Below W.heap.size W wr := by obtain ⟨_, _, _, _, _, _, _, _, _, hb⟩ := HK.out; exact hb
      have c1 := cellb hbr (hcl k hlt 1 (by omega))
      have c2 := cellb hbr (hcl k hlt 2 (by omega))
      have HC0 := hid (fun U (hU : Below W.heap.size W U) => cellb hU (hcl k hlt 0 (by omega)))
      have HC1 := hid (fun U (hU : Below W.heap.size W U) => cellb hU (hcl k hlt 1 (by omega)))
      have HC2 := hid (fun U (hU : Below W.heap.size W U) => cellb hU (hcl k hlt 2 (by omega)))
      simp only [Nat.add_zero] at HC0
      have HBR := hid hbr
      clear hcl hbr
      generalize f k 0 = x0 at *
      generalize f k 1 = x at *
      generalize f k 2 = y at *
      have c1a : ∀ o, (wr.alloc o).cell? ⟨b, off + k * 3 + 1, none⟩ = some (.int .i64 x) := fun o => (World.cell?_alloc_lt wr o _ (lt_of_cell c1)).trans c1
      have c2a : ∀ o, (wr.alloc o).cell? ⟨b, off + k * 3 + 2, none⟩ = some (.int .i64 y) := fun o => (World.cell?_alloc_lt wr o _ (lt_of_cell c2)).trans c2
      go_upto_region 7 with (fail)
      go_cut [7] from 24 to 34 (fun tv wx => tv = .pointer (some ⟨wr.heap.size, 0, none⟩) ∧ wx.heap[wr.heap.size]? = some (.cells #[.int .i64 x, .int .i64 y] 119 (0, 0)) ∧ Below wr.heap.size wr wx)
      case first =>
        go_region
        all_goals
          go_wp2_with fail
          go_meet
          exact ⟨rfl, heap_alloc_new _ _, below_drew ((Below.refl _ _).alloc (Nat.le_refl _) _)⟩
      case rest =>
        obtain ⟨rfl, hm1, hb1⟩ := hcut
        have HM := hid hm1
        have HK1 := hid (HK.out.keep hb1)
        have HMT : Hid (W.heap.size < wr.heap.size) := hid (by obtain ⟨_, _, _, _, _, _, _, _, h9, _⟩ := HK.out; exact lt_of_block h9.1)
        have HB1 := hid (HBR.out.trans (hb1.mono HBR.out.size))
        clear hm1 hb1 HK c1 c2 c1a c2a HBR
        generalize wr.heap.size = M at *
        obtain ⟨w1, hw1⟩ : ∃ w1 : World, w1 = wc := ⟨_, rfl⟩
        subst hw1
        have d0 := HC0.out w1 HB1.out
        obtain ⟨s, As, Os, Rs, cas, cos, crs, hki, hks, _⟩ := HK1.out
        have hok := hki.ok (by omega) (by omega)
        have HKI := hid hki
        have HKS := hid hks
        have HOK := hid hok
        clear hki hks hok
        go_upto_if 40 with (fail)
        go_cut [8, 9, 10] from 40 to 131 (fun _ _ _ wx => Hid (KR W wx n (k + 1)))
        case first =>
          by_cases h0 : x0 = 0
          · subst h0
            have hS : ∀ U, Below W.heap.size W U → ((U.cell? ⟨b, off + k * 3, none⟩ = some (.int .i64 0) ∧ U.cell? ⟨b, off + k * 3 + 1, none⟩ = some (.int .i64 x) ∧ U.cell? ⟨b, off + k * 3 + 2, none⟩ = some (.int .i64 y)) ∧ Below W.heap.size W U) := fun U hU => ⟨⟨HC0.out U hU, HC1.out U hU, HC2.out U hU⟩, hU⟩
            have hu0 : Below W.heap.size W w1.drew := below_drew HB1.out
            have HKD : Hid (KS w1.drew W.heap.size W.heap.size s As Os Rs cas cos crs) := hid (HKS.out.keep (below_drew (Below.refl _ _)))
            have HCT := hid (ask_any s x y As Os Rs cas cos crs w1.drew HKD.out.2.inV HOK.out)
            have HKI2 : Hid (KI n (k + 1) (askV s x y).1) := hid (HKI.out.ask x y)
            generalize askV s x y = av at *
            obtain ⟨⟨n1, a1, o1, r1⟩, b1⟩ := av
            simp only [svv] at HCT HKI2
            obtain ⟨⟨p0, p1, p2, p3⟩, _⟩ := four_cells HKD.out.1
            go_upto_region 9 with (fail)
            refine wp_region_held_drew (S := (fun U => (U.cell? ⟨b, off + k * 3, none⟩ = some (.int .i64 0) ∧ U.cell? ⟨b, off + k * 3 + 1, none⟩ = some (.int .i64 x) ∧ U.cell? ⟨b, off + k * 3 + 2, none⟩ = some (.int .i64 y)) ∧ Below W.heap.size W U)) (by kernel_rfl) (hS _ hu0) (fun hHeld => ?_)
            refine wpAnyH_take (i := 1) (v := ?_) rfl (by kernel_rfl) (by kernel_rfl) (by kernel_rfl) (fun _ _ _ h => h) (Or.inl ⟨by rfl, ?_⟩) (by assumption) ?_
            rotate_left
            focus
              intro U hU
              try dsimp only at hU
              go_simp
              try (with_reducible rfl)
            simp only [List.getElem_toArray, List.getElem_cons_succ, List.getElem_cons_zero, Act.put, List.setIfInBounds_toArray, List.set_cons_zero, List.set_cons_succ]
            refine wpAnyH_take (i := 2) (v := ?_) rfl (by kernel_rfl) (by kernel_rfl) (by kernel_rfl) (fun _ _ _ h => h) (Or.inl ⟨by rfl, ?_⟩) (by assumption) ?_
            rotate_left
            focus
              intro U hU
              try dsimp only at hU
              go_simp
              try (with_reducible rfl)
            simp only [List.getElem_toArray, List.getElem_cons_succ, List.getElem_cons_zero, Act.put, List.setIfInBounds_toArray, List.set_cons_zero, List.set_cons_succ]
            refine wpAnyH_take (i := 3) (v := ?_) rfl (by kernel_rfl) (by kernel_rfl) (by kernel_rfl) (fun _ _ _ h => h) (Or.inl ⟨by rfl, ?_⟩) (by assumption) ?_
            rotate_left
            focus
              intro U hU
              try dsimp only at hU
              go_simp
              try (with_reducible rfl)
            simp only [List.getElem_toArray, List.getElem_cons_succ, List.getElem_cons_zero, Act.put, List.setIfInBounds_toArray, List.set_cons_zero, List.set_cons_succ]
            refine wpAnyH_take (i := 4) (v := ?_) rfl (by kernel_rfl) (by kernel_rfl) (by kernel_rfl) (fun _ _ _ h => h) (Or.inl ⟨by rfl, ?_⟩) (by assumption) ?_
            rotate_left
            focus
              intro U hU
              try dsimp only at hU
              go_simp
              try (with_reducible rfl)
            simp only [List.getElem_toArray, List.getElem_cons_succ, List.getElem_cons_zero, Act.put, List.setIfInBounds_toArray, List.set_cons_zero, List.set_cons_succ]
            refine wpAnyH_take (i := 5) (v := ?_) rfl (by kernel_rfl) (by kernel_rfl) (by kernel_rfl) (fun _ _ _ h => h) (Or.inl ⟨by rfl, ?_⟩) (by assumption) ?_
            rotate_left
            focus
              intro U hU
              try dsimp only at hU
              go_simp
              try (with_reducible rfl)
            simp only [List.getElem_toArray, List.getElem_cons_succ, List.getElem_cons_zero, Act.put, List.setIfInBounds_toArray, List.set_cons_zero, List.set_cons_succ]
            refine wpAnyH_take (i := 6) (v := ?_) rfl (by kernel_rfl) (by kernel_rfl) (by kernel_rfl) (fun _ _ _ h => h) (Or.inl ⟨by rfl, ?_⟩) (by assumption) ?_
            rotate_left
            focus
              intro U hU
              try dsimp only at hU
              go_simp
              try (with_reducible rfl)
            simp only [List.getElem_toArray, List.getElem_cons_succ, List.getElem_cons_zero, Act.put, List.setIfInBounds_toArray, List.set_cons_zero, List.set_cons_succ]
            refine wpAnyH_take (i := 7) (v := ?_) rfl (by kernel_rfl) (by kernel_rfl) (by kernel_rfl) (fun _ _ _ h => h) (Or.inl ⟨by rfl, ?_⟩) (by assumption) ?_
            rotate_left
            focus
              intro U hU
              try dsimp only at hU
              go_simp
              try (with_reducible rfl)
            simp only [List.getElem_toArray, List.getElem_cons_succ, List.getElem_cons_zero, Act.put, List.setIfInBounds_toArray, List.set_cons_zero, List.set_cons_succ]
            refine wpAnyH_take (i := 8) (v := ?_) rfl (by kernel_rfl) (by kernel_rfl) (by kernel_rfl) (fun _ _ _ h => h) (Or.inl ⟨by rfl, ?_⟩) (by assumption) ?_
            rotate_left
            focus
              intro U hU
              try dsimp only at hU
              go_simp
              try (with_reducible rfl)
            simp only [List.getElem_toArray, List.getElem_cons_succ, List.getElem_cons_zero, Act.put, List.setIfInBounds_toArray, List.set_cons_zero, List.set_cons_succ]
            refine wpAnyH_take (i := 9) (v := ?_) rfl (by kernel_rfl) (by kernel_rfl) (by kernel_rfl) (fun _ _ _ h => h) (Or.inl ⟨by rfl, ?_⟩) (by assumption) ?_
            rotate_left
            focus
              intro U hU
              try dsimp only at hU
              go_simp
              try (with_reducible rfl)
            simp only [List.getElem_toArray, List.getElem_cons_succ, List.getElem_cons_zero, Act.put, List.setIfInBounds_toArray, List.set_cons_zero, List.set_cons_succ]
            refine wpAnyH_take (i := 10) (v := ?_) rfl (by kernel_rfl) (by kernel_rfl) (by kernel_rfl) (fun _ _ _ h => h) (Or.inl ⟨by rfl, ?_⟩) (by assumption) ?_
            rotate_left
            focus
              intro U hU
              try dsimp only at hU
              go_simp
              try (with_reducible rfl)
            simp only [List.getElem_toArray, List.getElem_cons_succ, List.getElem_cons_zero, Act.put, List.setIfInBounds_toArray, List.set_cons_zero, List.set_cons_succ]
            refine wpAnyH_take (i := 11) (v := ?_) rfl (by kernel_rfl) (by kernel_rfl) (by kernel_rfl) (fun _ _ _ h => h) (Or.inl ⟨by rfl, ?_⟩) (by assumption) ?_
            rotate_left
            focus
              intro U hU
              try dsimp only at hU
              go_simp
              try (with_reducible rfl)
            simp only [List.getElem_toArray, List.getElem_cons_succ, List.getElem_cons_zero, Act.put, List.setIfInBounds_toArray, List.set_cons_zero, List.set_cons_succ]
            refine wpAnyH_ready (rs := [0]) (by kernel_rfl) (by simp) ?_
            refine AllReadyH.cons rfl (fun K hK => ?_) AllReadyH.nil
            simp only [List.getElem_toArray, List.getElem_cons_succ, List.getElem_cons_zero]
            go_simp
            refine hK.out _ _ ?_ (fun hHeld2 => ?_)
            focus
              exact hS _ (by with_reducible assumption)
            clear hHeld
            have hHeld := hHeld2
            clear hHeld2 hK K
            try simp only [List.getElem_toArray, List.getElem_cons_succ, List.getElem_cons_zero, Act.put, List.setIfInBounds_toArray, List.set_cons_zero, List.set_cons_succ]
            refine wpAnyH_ready (rs := [12]) (by kernel_rfl) (by simp) ?_
            refine AllReadyH.cons rfl (fun K hK => ?_) AllReadyH.nil
            simp only [List.getElem_toArray, List.getElem_cons_succ, List.getElem_cons_zero]
            go_simp
            refine HCT.out.mono ?_
            rintro q u1 ⟨A1, O1, R1, ca1, co1, cr1, rfl, ho1, hb1⟩
            have hu1 : Below W.heap.size W u1 := hu0.trans (hb1.mono hu0.size)
            have hx1 := keep0 HKD.out.1 hb1
            have HO1 := hid (ho1.mono hu0.size)
            clear p0 p1 p2 p3 ho1 hb1
            obtain ⟨⟨p0, p1, p2, p3⟩, f0, f1, f2, f3⟩ := four_cells hx1
            go_wp2_with fail
            refine hK.out _ _ ?_ (fun hHeld2 => ?_)
            focus
              exact hS _ (by with_reducible assumption)
            clear hHeld
            have hHeld := hHeld2
            clear hHeld2 hK K
            try simp only [List.getElem_toArray, List.getElem_cons_succ, List.getElem_cons_zero, Act.put, List.setIfInBounds_toArray, List.set_cons_zero, List.set_cons_succ]
            refine wpAnyH_take (i := 13) (v := ?_) rfl (by kernel_rfl) (by kernel_rfl) (by kernel_rfl) (fun _ _ _ h => h) (Or.inl ⟨by rfl, ?_⟩) (by assumption) ?_
            rotate_left
            focus
              intro U hU
              try dsimp only at hU
              go_simp
              try (with_reducible rfl)
            simp only [List.getElem_toArray, List.getElem_cons_succ, List.getElem_cons_zero, Act.put, List.setIfInBounds_toArray, List.set_cons_zero, List.set_cons_succ]
            refine wpAnyH_take (i := 14) (v := ?_) rfl (by kernel_rfl) (by kernel_rfl) (by kernel_rfl) (fun _ _ _ h => h) (Or.inl ⟨by rfl, ?_⟩) (by assumption) ?_
            rotate_left
            focus
              intro U hU
              try dsimp only at hU
              go_simp
              try (with_reducible rfl)
            simp only [List.getElem_toArray, List.getElem_cons_succ, List.getElem_cons_zero, Act.put, List.setIfInBounds_toArray, List.set_cons_zero, List.set_cons_succ]
            refine wpAnyH_take (i := 15) (v := ?_) rfl (by kernel_rfl) (by kernel_rfl) (by kernel_rfl) (fun _ _ _ h => h) (Or.inl ⟨by rfl, ?_⟩) (by assumption) ?_
            rotate_left
            focus
              intro U hU
              try dsimp only at hU
              go_simp
              try (with_reducible rfl)
            simp only [List.getElem_toArray, List.getElem_cons_succ, List.getElem_cons_zero, Act.put, List.setIfInBounds_toArray, List.set_cons_zero, List.set_cons_succ]
            refine wpAnyH_ready (rs := [16]) (by kernel_rfl) (by simp) ?_
            refine AllReadyH.cons rfl (fun K hK => ?_) AllReadyH.nil
            simp only [List.getElem_toArray, List.getElem_cons_succ, List.getElem_cons_zero]
            go_simp
            refine hK.out _ _ ?_ (fun hHeld2 => ?_)
            focus
              exact hS _ (by repeat' (first | with_reducible exact hu1 | with_reducible refine Below.setCell ?_ (by simp) _))
            clear hHeld
            have hHeld := hHeld2
            clear hHeld2 hK K
            try simp only [List.getElem_toArray, List.getElem_cons_succ, List.getElem_cons_zero, Act.put, List.setIfInBounds_toArray, List.set_cons_zero, List.set_cons_succ]
            refine wpAnyH_done (by kernel_rfl) ?_ _
            clear hHeld hS
            go_wp2_with fail
            go_meet
            exact KR.put (s := ⟨n1, a1, o1, r1⟩) hx1 HO1.out HKI2.out hu1 rfl
          by_cases h1 : x0 = 1
          · subst h1
            have hS : ∀ U, Below W.heap.size W U → ((U.cell? ⟨b, off + k * 3, none⟩ = some (.int .i64 1) ∧ U.cell? ⟨b, off + k * 3 + 1, none⟩ = some (.int .i64 x) ∧ U.cell? ⟨b, off + k * 3 + 2, none⟩ = some (.int .i64 y)) ∧ Below W.heap.size W U) := fun U hU => ⟨⟨HC0.out U hU, HC1.out U hU, HC2.out U hU⟩, hU⟩
            have hu0 : Below W.heap.size W w1.drew := below_drew HB1.out
            have HKD : Hid (KS w1.drew W.heap.size W.heap.size s As Os Rs cas cos crs) := hid (HKS.out.keep (below_drew (Below.refl _ _)))
            have HCT := hid (none_any s x As Os Rs cas cos crs w1.drew HKD.out.2.inV HOK.out)
            have HKI2 : Hid (KI n (k + 1) (noneV s x).1) := hid (HKI.out.none x)
            generalize noneV s x = av at *
            obtain ⟨⟨n1, a1, o1, r1⟩, b1⟩ := av
            simp only [svv] at HCT HKI2
            obtain ⟨⟨p0, p1, p2, p3⟩, _⟩ := four_cells HKD.out.1
            go_upto_region 11 with (fail)
            refine wp_region_held_drew (S := (fun U => (U.cell? ⟨b, off + k * 3, none⟩ = some (.int .i64 1) ∧ U.cell? ⟨b, off + k * 3 + 1, none⟩ = some (.int .i64 x) ∧ U.cell? ⟨b, off + k * 3 + 2, none⟩ = some (.int .i64 y)) ∧ Below W.heap.size W U)) (by kernel_rfl) (hS _ hu0) (fun hHeld => ?_)
            refine wpAnyH_take (i := 1) (v := ?_) rfl (by kernel_rfl) (by kernel_rfl) (by kernel_rfl) (fun _ _ _ h => h) (Or.inl ⟨by rfl, ?_⟩) (by assumption) ?_
            rotate_left
            focus
              intro U hU
              try dsimp only at hU
              go_simp
              try (with_reducible rfl)
            simp only [List.getElem_toArray, List.getElem_cons_succ, List.getElem_cons_zero, Act.put, List.setIfInBounds_toArray, List.set_cons_zero, List.set_cons_succ]
            refine wpAnyH_take (i := 2) (v := ?_) rfl (by kernel_rfl) (by kernel_rfl) (by kernel_rfl) (fun _ _ _ h => h) (Or.inl ⟨by rfl, ?_⟩) (by assumption) ?_
            rotate_left
            focus
              intro U hU
              try dsimp only at hU
              go_simp
              try (with_reducible rfl)
            simp only [List.getElem_toArray, List.getElem_cons_succ, List.getElem_cons_zero, Act.put, List.setIfInBounds_toArray, List.set_cons_zero, List.set_cons_succ]
            refine wpAnyH_take (i := 3) (v := ?_) rfl (by kernel_rfl) (by kernel_rfl) (by kernel_rfl) (fun _ _ _ h => h) (Or.inl ⟨by rfl, ?_⟩) (by assumption) ?_
            rotate_left
            focus
              intro U hU
              try dsimp only at hU
              go_simp
              try (with_reducible rfl)
            simp only [List.getElem_toArray, List.getElem_cons_succ, List.getElem_cons_zero, Act.put, List.setIfInBounds_toArray, List.set_cons_zero, List.set_cons_succ]
            refine wpAnyH_take (i := 4) (v := ?_) rfl (by kernel_rfl) (by kernel_rfl) (by kernel_rfl) (fun _ _ _ h => h) (Or.inl ⟨by rfl, ?_⟩) (by assumption) ?_
            rotate_left
            focus
              intro U hU
              try dsimp only at hU
              go_simp
              try (with_reducible rfl)
            simp only [List.getElem_toArray, List.getElem_cons_succ, List.getElem_cons_zero, Act.put, List.setIfInBounds_toArray, List.set_cons_zero, List.set_cons_succ]
            refine wpAnyH_take (i := 5) (v := ?_) rfl (by kernel_rfl) (by kernel_rfl) (by kernel_rfl) (fun _ _ _ h => h) (Or.inl ⟨by rfl, ?_⟩) (by assumption) ?_
            rotate_left
            focus
              intro U hU
              try dsimp only at hU
              go_simp
              try (with_reducible rfl)
            simp only [List.getElem_toArray, List.getElem_cons_succ, List.getElem_cons_zero, Act.put, List.setIfInBounds_toArray, List.set_cons_zero, List.set_cons_succ]
            refine wpAnyH_ready (rs := [0]) (by kernel_rfl) (by simp) ?_
            refine AllReadyH.cons rfl (fun K hK => ?_) AllReadyH.nil
            simp only [List.getElem_toArray, List.getElem_cons_succ, List.getElem_cons_zero]
            go_simp
            refine hK.out _ _ ?_ (fun hHeld2 => ?_)
            focus
              exact hS _ (by with_reducible assumption)
            clear hHeld
            have hHeld := hHeld2
            clear hHeld2 hK K
            try simp only [List.getElem_toArray, List.getElem_cons_succ, List.getElem_cons_zero, Act.put, List.setIfInBounds_toArray, List.set_cons_zero, List.set_cons_succ]
            refine wpAnyH_ready (rs := [6]) (by kernel_rfl) (by simp) ?_
            refine AllReadyH.cons rfl (fun K hK => ?_) AllReadyH.nil
            simp only [List.getElem_toArray, List.getElem_cons_succ, List.getElem_cons_zero]
            go_simp
            refine HCT.out.mono ?_
            rintro q u1 ⟨A1, O1, R1, ca1, co1, cr1, rfl, ho1, hb1⟩
            have hu1 : Below W.heap.size W u1 := hu0.trans (hb1.mono hu0.size)
            have hx1 := keep0 HKD.out.1 hb1
            have HO1 := hid (ho1.w.mono hu0.size)
            clear p0 p1 p2 p3 ho1 hb1
            obtain ⟨⟨p0, p1, p2, p3⟩, f0, f1, f2, f3⟩ := four_cells hx1
            go_wp2_with fail
            refine hK.out _ _ ?_ (fun hHeld2 => ?_)
            focus
              exact hS _ (by with_reducible assumption)
            clear hHeld
            have hHeld := hHeld2
            clear hHeld2 hK K
            try simp only [List.getElem_toArray, List.getElem_cons_succ, List.getElem_cons_zero, Act.put, List.setIfInBounds_toArray, List.set_cons_zero, List.set_cons_succ]
            refine wpAnyH_take (i := 7) (v := ?_) rfl (by kernel_rfl) (by kernel_rfl) (by kernel_rfl) (fun _ _ _ h => h) (Or.inl ⟨by rfl, ?_⟩) (by assumption) ?_
            rotate_left
            focus
              intro U hU
              try dsimp only at hU
              go_simp
              try (with_reducible rfl)
            simp only [List.getElem_toArray, List.getElem_cons_succ, List.getElem_cons_zero, Act.put, List.setIfInBounds_toArray, List.set_cons_zero, List.set_cons_succ]
            refine wpAnyH_take (i := 8) (v := ?_) rfl (by kernel_rfl) (by kernel_rfl) (by kernel_rfl) (fun _ _ _ h => h) (Or.inl ⟨by rfl, ?_⟩) (by assumption) ?_
            rotate_left
            focus
              intro U hU
              try dsimp only at hU
              go_simp
              try (with_reducible rfl)
            simp only [List.getElem_toArray, List.getElem_cons_succ, List.getElem_cons_zero, Act.put, List.setIfInBounds_toArray, List.set_cons_zero, List.set_cons_succ]
            refine wpAnyH_take (i := 9) (v := ?_) rfl (by kernel_rfl) (by kernel_rfl) (by kernel_rfl) (fun _ _ _ h => h) (Or.inl ⟨by rfl, ?_⟩) (by assumption) ?_
            rotate_left
            focus
              intro U hU
              try dsimp only at hU
              go_simp
              try (with_reducible rfl)
            simp only [List.getElem_toArray, List.getElem_cons_succ, List.getElem_cons_zero, Act.put, List.setIfInBounds_toArray, List.set_cons_zero, List.set_cons_succ]
            refine wpAnyH_ready (rs := [10]) (by kernel_rfl) (by simp) ?_
            refine AllReadyH.cons rfl (fun K hK => ?_) AllReadyH.nil
            simp only [List.getElem_toArray, List.getElem_cons_succ, List.getElem_cons_zero]
            go_simp
            refine hK.out _ _ ?_ (fun hHeld2 => ?_)
            focus
              exact hS _ (by repeat' (first | with_reducible exact hu1 | with_reducible refine Below.setCell ?_ (by simp) _))
            clear hHeld
            have hHeld := hHeld2
            clear hHeld2 hK K
            try simp only [List.getElem_toArray, List.getElem_cons_succ, List.getElem_cons_zero, Act.put, List.setIfInBounds_toArray, List.set_cons_zero, List.set_cons_succ]
            refine wpAnyH_done (by kernel_rfl) ?_ _
            clear hHeld hS
            go_wp2_with fail
            go_meet
            exact KR.put (s := ⟨n1, a1, o1, r1⟩) hx1 HO1.out HKI2.out hu1 rfl
          by_cases h2 : x0 = 2
          · subst h2
            have HQ := hid (fun w As' (h : Sl w 2 As' s.a.length cas (pcells s.a)) => qhas_any As' s.a.length cas s.a x w h)
            have HRN := hid (HKI.out.runs (x, y))
            have HCT := hid (fun w (h : InV w s As Os Rs cas cos crs) => give_any s x y As Os Rs cas cos crs w h HOK.out)
            have HKI2 : Hid (KI n (k + 1) (giveV s (x, y)).1) := hid (HKI.out.give (x, y))
            generalize giveV s (x, y) = av at *
            obtain ⟨⟨n1, a1, o1, r1⟩, b1⟩ := av
            obtain ⟨sn, sa, so, sr⟩ := s
            simp only [svv] at HCT HKI2 HRN HQ
            generalize hasJ sa x = hj at *
            obtain ⟨⟨p0, p1, p2, p3⟩, _⟩ := four_cells HKS.out.1
            obtain ⟨m0, m1, _, _⟩ := two_cells HM.out
            have HQ2 := hid (HQ.out w1 As (sl_own HKS.out.2.1))
            clear HQ
            go_wp2_with fail
            refine HQ2.out.mono ?_
            rintro q u2 ⟨rfl, hb2⟩
            have HK2 := hid (HKS.out.keep hb2)
            have HM2 := hid (keep0 HM.out hb2)
            have HB2 := hid (HB1.out.trans (hb2.mono HB1.out.size))
            have HL2 := hid (Nat.lt_of_lt_of_le (lt_of_block HM.out) hb2.size)
            clear hb2 HQ2 p0 p1 p2 p3 m0 m1
            obtain ⟨⟨p0, p1, p2, p3⟩, _⟩ := four_cells HK2.out.1
            obtain ⟨m0, m1, _, _⟩ := two_cells HM2.out
            go_wp2_with fail
            refine (HCT.out u2 HK2.out.2.inV).mono ?_
            rintro q u3 ⟨A1, O1, R1, ca1, co1, cr1, rfl, ho3, hb3⟩
            have hal : Below u3.heap.size u3 (u3.alloc (.cells #[.int .i64 n1, .slice A1 a1.length ca1, .slice O1 o1.length co1, .slice R1 r1.length cr1] 116)) := (Below.refl _ _).alloc (Nat.le_refl _) _
            have hb4 := HB2.out.trans ((hb3.trans (hal.mono hb3.size)).mono HB2.out.size)
            have hx4 := keep0 (keep0 HK2.out.1 hb3) hal
            have hy4 := heap_alloc_new u3 (.cells #[.int .i64 n1, .slice A1 a1.length ca1, .slice O1 o1.length co1, .slice R1 r1.length cr1] 116)
            have HO4 := hid ((ho3.mono HB2.out.size).keep hal)
            have HB4 := hid hb4
            have HX4 := hid hx4
            have HY4 := hid hy4
            have HNE : Hid (W.heap.size < u3.heap.size) := hid (lt_of_block (keep0 HK2.out.1 hb3))
            clear p0 p1 p2 p3 m0 m1 ho3 hb3 hal hb4 hx4 hy4 HCT
            go_upto_region 15 with (fail)
            refine at_world (fun u => u.heap[W.heap.size]? = some (.cells #[.int .i64 sn, .slice As sa.length cas, .slice Os so.length cos, .slice Rs sr.length crs] 116 (0, 0)) ∧ u.heap[u3.heap.size]? = some (.cells #[.int .i64 n1, .slice A1 a1.length ca1, .slice O1 o1.length co1, .slice R1 r1.length cr1] 116 (0, 0)) ∧ OwnW u W.heap.size ⟨n1, a1, o1, r1⟩ A1 O1 R1 ca1 co1 cr1 ∧ Below W.heap.size W u) ⟨HX4.out, HY4.out, HO4.out, HB4.out⟩ ?_
            clear HX4 HY4 HO4 HB4 HK2 HM2 HB2
            generalize u3.heap.size = X at *
            rintro u5 ⟨hx5, hy5, ho5, hb5⟩
            obtain ⟨⟨p0, p1, p2, p3⟩, f0, f1, f2, f3⟩ := four_cells hx5
            obtain ⟨⟨y0, y1, y2, y3⟩, _⟩ := four_cells hy5
            have HX5 := hid hx5
            have HO5 := hid ho5
            have HB5 := hid hb5
            clear hx5 hy5 ho5 hb5
            cases hj
            case true =>
              have hrn := HRN.out rfl
              try simp only at hrn
              subst hrn
              go_wp2_with fail
              go_meet
              exact KR.put (s := ⟨n1, a1, o1, r1⟩) HX5.out HO5.out HKI2.out HB5.out rfl
            case false =>
              go_wp2_with fail
              go_meet
              exact KR.put (s := ⟨n1, a1, o1, r1⟩) HX5.out HO5.out HKI2.out HB5.out rfl
          by_cases h3 : x0 = 3
          · subst h3
            have HCT := hid (next_any s As Os Rs cas cos crs w1 HKS.out.2.inV HOK.out)
            have HKI2 : Hid (KI n (k + 1) (nextV s).1) := hid (HKI.out.next)
            generalize (nextV s) = av at *
            obtain ⟨⟨n1, a1, o1, r1⟩, ⟨t1, t2⟩, b1⟩ := av
            simp only [svv] at HCT HKI2
            obtain ⟨⟨p0, p1, p2, p3⟩, _⟩ := four_cells HKS.out.1
            obtain ⟨m0, m1, _, _⟩ := two_cells HM.out
            go_wp2_with fail
            refine HCT.out.mono ?_
            rintro q u1 ⟨A1, O1, R1, ca1, co1, cr1, rfl, ho1, hb1⟩
            have hu1 : Below W.heap.size W u1 := HB1.out.trans (hb1.mono HB1.out.size)
            have hx1 := keep0 HKS.out.1 hb1
            have HO1 := hid (ho1.mono HB1.out.size)
            have HU1 := hid hu1
            have HX1 := hid hx1
            clear p0 p1 p2 p3 ho1 hb1 m0 m1 hu1
            obtain ⟨⟨p0, p1, p2, p3⟩, f0, f1, f2, f3⟩ := four_cells hx1
            clear hx1
            go_wp2_with fail
            go_meet
            exact KR.put (s := ⟨n1, a1, o1, r1⟩) HX1.out HO1.out HKI2.out HU1.out rfl
          by_cases h4 : x0 = 4
          · subst h4
            have HCT := hid (end_any s x y As Os Rs cas cos crs w1 HKS.out.2.inV HOK.out)
            have HKI2 : Hid (KI n (k + 1) (endV s (x, y)).1) := hid (HKI.out.fin (x, y))
            generalize (endV s (x, y)) = av at *
            obtain ⟨⟨n1, a1, o1, r1⟩, b1⟩ := av
            simp only [svv] at HCT HKI2
            obtain ⟨⟨p0, p1, p2, p3⟩, _⟩ := four_cells HKS.out.1
            obtain ⟨m0, m1, _, _⟩ := two_cells HM.out
            go_wp2_with fail
            refine HCT.out.mono ?_
            rintro q u1 ⟨A1, O1, R1, ca1, co1, cr1, rfl, ho1, hb1⟩
            have hu1 : Below W.heap.size W u1 := HB1.out.trans (hb1.mono HB1.out.size)
            have hx1 := keep0 HKS.out.1 hb1
            have HO1 := hid (ho1.mono HB1.out.size)
            have HU1 := hid hu1
            have HX1 := hid hx1
            clear p0 p1 p2 p3 ho1 hb1 m0 m1 hu1
            obtain ⟨⟨p0, p1, p2, p3⟩, f0, f1, f2, f3⟩ := four_cells hx1
            clear hx1
            go_wp2_with fail
            go_meet
            exact KR.put (s := ⟨n1, a1, o1, r1⟩) HX1.out HO1.out HKI2.out HU1.out rfl
          · skip
            have hS : ∀ U, Below W.heap.size W U → ((U.cell? ⟨b, off + k * 3, none⟩ = some (.int .i64 x0) ∧ U.cell? ⟨b, off + k * 3 + 1, none⟩ = some (.int .i64 x) ∧ U.cell? ⟨b, off + k * 3 + 2, none⟩ = some (.int .i64 y)) ∧ Below W.heap.size W U) := fun U hU => ⟨⟨HC0.out U hU, HC1.out U hU, HC2.out U hU⟩, hU⟩
            have hu0 : Below W.heap.size W w1.drew := below_drew HB1.out
            have HKD : Hid (KS w1.drew W.heap.size W.heap.size s As Os Rs cas cos crs) := hid (HKS.out.keep (below_drew (Below.refl _ _)))
            have HCT := hid (smove_any s x y As Os Rs cas cos crs w1.drew HKD.out.2.inV HOK.out)
            have HKI2 : Hid (KI n (k + 1) (mvV s x y)) := hid (HKI.out.move x y)
            generalize mvV s x y = av at *
            obtain ⟨n1, a1, o1, r1⟩ := av
            simp only [svv] at HCT HKI2
            obtain ⟨⟨p0, p1, p2, p3⟩, _⟩ := four_cells HKD.out.1
            go_upto_region 22 with (fail)
            clear h0 h1 h2 h3 h4
            refine wp_region_held_drew (S := (fun U => (U.cell? ⟨b, off + k * 3, none⟩ = some (.int .i64 x0) ∧ U.cell? ⟨b, off + k * 3 + 1, none⟩ = some (.int .i64 x) ∧ U.cell? ⟨b, off + k * 3 + 2, none⟩ = some (.int .i64 y)) ∧ Below W.heap.size W U)) (by kernel_rfl) (hS _ hu0) (fun hHeld => ?_)
            refine wpAnyH_take (i := 1) (v := ?_) rfl (by kernel_rfl) (by kernel_rfl) (by kernel_rfl) (fun _ _ _ h => h) (Or.inl ⟨by rfl, ?_⟩) (by assumption) ?_
            rotate_left
            focus
              intro U hU
              try dsimp only at hU
              go_simp
              try (with_reducible rfl)
            simp only [List.getElem_toArray, List.getElem_cons_succ, List.getElem_cons_zero, Act.put, List.setIfInBounds_toArray, List.set_cons_zero, List.set_cons_succ]
            refine wpAnyH_take (i := 2) (v := ?_) rfl (by kernel_rfl) (by kernel_rfl) (by kernel_rfl) (fun _ _ _ h => h) (Or.inl ⟨by rfl, ?_⟩) (by assumption) ?_
            rotate_left
            focus
              intro U hU
              try dsimp only at hU
              go_simp
              try (with_reducible rfl)
            simp only [List.getElem_toArray, List.getElem_cons_succ, List.getElem_cons_zero, Act.put, List.setIfInBounds_toArray, List.set_cons_zero, List.set_cons_succ]
            refine wpAnyH_take (i := 3) (v := ?_) rfl (by kernel_rfl) (by kernel_rfl) (by kernel_rfl) (fun _ _ _ h => h) (Or.inl ⟨by rfl, ?_⟩) (by assumption) ?_
            rotate_left
            focus
              intro U hU
              try dsimp only at hU
              go_simp
              try (with_reducible rfl)
            simp only [List.getElem_toArray, List.getElem_cons_succ, List.getElem_cons_zero, Act.put, List.setIfInBounds_toArray, List.set_cons_zero, List.set_cons_succ]
            refine wpAnyH_take (i := 4) (v := ?_) rfl (by kernel_rfl) (by kernel_rfl) (by kernel_rfl) (fun _ _ _ h => h) (Or.inl ⟨by rfl, ?_⟩) (by assumption) ?_
            rotate_left
            focus
              intro U hU
              try dsimp only at hU
              go_simp
              try (with_reducible rfl)
            simp only [List.getElem_toArray, List.getElem_cons_succ, List.getElem_cons_zero, Act.put, List.setIfInBounds_toArray, List.set_cons_zero, List.set_cons_succ]
            refine wpAnyH_take (i := 5) (v := ?_) rfl (by kernel_rfl) (by kernel_rfl) (by kernel_rfl) (fun _ _ _ h => h) (Or.inl ⟨by rfl, ?_⟩) (by assumption) ?_
            rotate_left
            focus
              intro U hU
              try dsimp only at hU
              go_simp
              try (with_reducible rfl)
            simp only [List.getElem_toArray, List.getElem_cons_succ, List.getElem_cons_zero, Act.put, List.setIfInBounds_toArray, List.set_cons_zero, List.set_cons_succ]
            refine wpAnyH_take (i := 6) (v := ?_) rfl (by kernel_rfl) (by kernel_rfl) (by kernel_rfl) (fun _ _ _ h => h) (Or.inl ⟨by rfl, ?_⟩) (by assumption) ?_
            rotate_left
            focus
              intro U hU
              try dsimp only at hU
              go_simp
              try (with_reducible rfl)
            simp only [List.getElem_toArray, List.getElem_cons_succ, List.getElem_cons_zero, Act.put, List.setIfInBounds_toArray, List.set_cons_zero, List.set_cons_succ]
            refine wpAnyH_take (i := 7) (v := ?_) rfl (by kernel_rfl) (by kernel_rfl) (by kernel_rfl) (fun _ _ _ h => h) (Or.inl ⟨by rfl, ?_⟩) (by assumption) ?_
            rotate_left
            focus
              intro U hU
              try dsimp only at hU
              go_simp
              try (with_reducible rfl)
            simp only [List.getElem_toArray, List.getElem_cons_succ, List.getElem_cons_zero, Act.put, List.setIfInBounds_toArray, List.set_cons_zero, List.set_cons_succ]
            refine wpAnyH_take (i := 8) (v := ?_) rfl (by kernel_rfl) (by kernel_rfl) (by kernel_rfl) (fun _ _ _ h => h) (Or.inl ⟨by rfl, ?_⟩) (by assumption) ?_
            rotate_left
            focus
              intro U hU
              try dsimp only at hU
              go_simp
              try (with_reducible rfl)
            simp only [List.getElem_toArray, List.getElem_cons_succ, List.getElem_cons_zero, Act.put, List.setIfInBounds_toArray, List.set_cons_zero, List.set_cons_succ]
            refine wpAnyH_take (i := 9) (v := ?_) rfl (by kernel_rfl) (by kernel_rfl) (by kernel_rfl) (fun _ _ _ h => h) (Or.inl ⟨by rfl, ?_⟩) (by assumption) ?_
            rotate_left
            focus
              intro U hU
              try dsimp only at hU
              go_simp
              try (with_reducible rfl)
            simp only [List.getElem_toArray, List.getElem_cons_succ, List.getElem_cons_zero, Act.put, List.setIfInBounds_toArray, List.set_cons_zero, List.set_cons_succ]
            refine wpAnyH_take (i := 10) (v := ?_) rfl (by kernel_rfl) (by kernel_rfl) (by kernel_rfl) (fun _ _ _ h => h) (Or.inl ⟨by rfl, ?_⟩) (by assumption) ?_
            rotate_left
            focus
              intro U hU
              try dsimp only at hU
              go_simp
              try (with_reducible rfl)
            simp only [List.getElem_toArray, List.getElem_cons_succ, List.getElem_cons_zero, Act.put, List.setIfInBounds_toArray, List.set_cons_zero, List.set_cons_succ]
            refine wpAnyH_ready (rs := [0]) (by kernel_rfl) (by simp) ?_
            refine AllReadyH.cons rfl (fun K hK => ?_) AllReadyH.nil
            simp only [List.getElem_toArray, List.getElem_cons_succ, List.getElem_cons_zero]
            go_simp
            refine hK.out _ _ ?_ (fun hHeld2 => ?_)
            focus
              exact hS _ (by with_reducible assumption)
            clear hHeld
            have hHeld := hHeld2
            clear hHeld2 hK K
            try simp only [List.getElem_toArray, List.getElem_cons_succ, List.getElem_cons_zero, Act.put, List.setIfInBounds_toArray, List.set_cons_zero, List.set_cons_succ]
            refine wpAnyH_ready (rs := [11]) (by kernel_rfl) (by simp) ?_
            refine AllReadyH.cons rfl (fun K hK => ?_) AllReadyH.nil
            simp only [List.getElem_toArray, List.getElem_cons_succ, List.getElem_cons_zero]
            go_simp
            refine HCT.out.mono ?_
            rintro q u1 ⟨A1, O1, R1, ca1, co1, cr1, rfl, ho1, hb1⟩
            have hu1 : Below W.heap.size W u1 := hu0.trans (hb1.mono hu0.size)
            have hx1 := keep0 HKD.out.1 hb1
            have HO1 := hid (ho1.mono hu0.size)
            clear p0 p1 p2 p3 ho1 hb1
            obtain ⟨⟨p0, p1, p2, p3⟩, f0, f1, f2, f3⟩ := four_cells hx1
            go_wp2_with fail
            refine hK.out _ _ ?_ (fun hHeld2 => ?_)
            focus
              exact hS _ (by with_reducible assumption)
            clear hHeld
            have hHeld := hHeld2
            clear hHeld2 hK K
            try simp only [List.getElem_toArray, List.getElem_cons_succ, List.getElem_cons_zero, Act.put, List.setIfInBounds_toArray, List.set_cons_zero, List.set_cons_succ]
            refine wpAnyH_ready (rs := [12]) (by kernel_rfl) (by simp) ?_
            refine AllReadyH.cons rfl (fun K hK => ?_) AllReadyH.nil
            simp only [List.getElem_toArray, List.getElem_cons_succ, List.getElem_cons_zero]
            go_simp
            refine hK.out _ _ ?_ (fun hHeld2 => ?_)
            focus
              exact hS _ (by repeat' (first | with_reducible exact hu1 | with_reducible refine Below.setCell ?_ (by simp) _))
            clear hHeld
            have hHeld := hHeld2
            clear hHeld2 hK K
            try simp only [List.getElem_toArray, List.getElem_cons_succ, List.getElem_cons_zero, Act.put, List.setIfInBounds_toArray, List.set_cons_zero, List.set_cons_succ]
            refine wpAnyH_done (by kernel_rfl) ?_ _
            clear hHeld hS
            go_wp2_with fail
            go_meet
            exact KR.put (s := ⟨n1, a1, o1, r1⟩) hx1 HO1.out HKI2.out hu1 rfl
        case rest =>
          obtain ⟨s2, A2, O2, R2, ca2, co2, cr2, hki, hks, hb⟩ := hcut.out
          have HKN := hid hcut.out
          have hfr := hki.free
          have hok2 := hki.ok (by omega) (by omega)
          have hsum := hki.2.1
          have HFC := hid (fun w => free_any s2 A2 O2 R2 ca2 co2 cr2 w hok2)
          rw [hfr] at HFC
          obtain ⟨⟨p0, p1, p2, p3⟩, _⟩ := four_cells hks.1
          obtain ⟨sn, a, o, r⟩ := s2
          simp only [svv] at HFC p0 p1 p2 p3 hsum
          clear hki hks hb hcut hfr hok2 HK1 HKI HKS HOK HM HB1 d0
          have hbig : (a.length : Int) + (r.length : Int) ≤ (n : Int) := by omega
          have hbig2 : decide ((n : Int) < (a.length : Int) + (r.length : Int)) = false := by simp; omega
          have hal9 : (a.length : Int) ≤ 255 := by omega
          have hrl9 : (r.length : Int) ≤ 255 := by omega
          have e99 : (((n : Int) - (a.length : Int) - (r.length : Int)) != ((n : Int) - (a.length : Int) - (r.length : Int))) = false := by simp
          generalize a.length = al at *
          generalize o.length = ol at *
          generalize r.length = rl at *
          go_upto_region 23 with (fail)
          replace p0 := cell_regrown p0
          replace p1 := cell_regrown p1
          replace p2 := cell_regrown p2
          replace p3 := cell_regrown p3
          have cF := reg (w := wc) (fun W' _ => HFC.out W')
          refine wp_region_quiet_below (by kernel_rfl) (by kernel_rfl) ?_
          repeat (go_big_quiet_step (first | (go_at_call 81; with_reducible exact cF _ _)))
          refine wpQuiet_nil ?_
          intro _ hw'
          obtain ⟨⟨dq, osq⟩, hw''⟩ := hw'
          subst hw''
          have HKQ := hid (HKN.out.keep (below_regrown wc dq osq))
          clear p0 p1 p2 p3 cF HFC HKN
          go_wp2
          go_roundw
          case rel => exact ⟨k + 1, by omega, by go_num, HKQ.out⟩
          case measure => simp [intOf]; omega
    · have hge : ¬ (k : Int) < (len : Int) := by omega
      obtain ⟨_, _, _, _, _, _, _, _, _, hb⟩ := HK.out
      have HB := hid hb
      clear hb HK
      go_wp2_with (go_at_call 76; refine (works30_any _).mono ?_; rintro e w4 ⟨rfl, hb4⟩)
      go_ret
      exact ⟨rfl, HB.out.trans (hb4.mono HB.out.size)⟩

set_option maxRecDepth 20000 in
theorem slotsKeep_big (lim : Int) (a : Option Addr) (len cap : Nat) (W : World) (h : 100 < len) (hm : len ≤ maxLen) :
    Calls Try.prog 12 #[.int .u8 lim, .slice a len cap] W fun e w' => e = .returned (.bool true) ∧ Below W.heap.size W w' := by
  unfold maxLen at hm
  have h2 : (100 : Int) < len := by omega
  have hd : decide ((100 : Int) < len) = true := decide_eq_true h2
  go_enter Try.func12, Try.ntmps12
  go_wp2_with fail
  refine (works30_any _).mono ?_
  rintro e w1 ⟨rfl, hb⟩
  go_wp2
  go_ret
  exact ⟨rfl, hb⟩
theorem slotsKeep_law (lim : Int) (A : Option Addr) (len cap : Nat) (W : World) (hl : (Lit.int .u8 lim).wf = true) (h : Rd Try.prog W 108 [.slice A len cap]) :
    Calls Try.prog 12 #[.int .u8 lim, .slice A len cap] W fun e w' => e = .returned (.bool true) ∧ Below W.heap.size W w' := by
  obtain ⟨hm, f, hw, hz⟩ := rows3 h
  have hwn := wf_u8 hl
  obtain ⟨n, rfl⟩ := Int.eq_ofNat_of_zero_le hwn.1
  by_cases h1 : len ≤ 100
  · exact slotsKeep_small n A len cap W h1 (by omega) f hz
  · exact slotsKeep_big _ A len cap W (by omega) hm
end Go.Proofs.Ytadjmgmdnekllaa
