/- The document's queue: Move, Push; the program's reservations, as contracts. -/
import Derived.Test.YtadjmgmdnekllaaQueR
import Derived.StillTailTactics
namespace Go.Proofs.Ytadjmgmdnekllaa
open Go.RowKit Go.Sort
set_option linter.unusedVariables false
set_option linter.unusedSimpArgs false

theorem pcells_take_snoc (l : List (Int × Int)) (k : Nat) (hk : k < l.length) : pcells (l.take (k + 1)) = pcells (l.take k) ++ [.int .i64 l[k].1, .int .i64 l[k].2] := by
  rw [List.take_add_one, List.getElem?_eq_getElem hk]
  exact pcells_snoc _ _
theorem moveJ_snoc (l : List (Int × Int)) (job s : Int) (k : Nat) (hk : k < l.length) : moveJ (l.take (k + 1)) job s = moveJ (l.take k) job s ++ [(l[k].1, if l[k].1 = job then s else l[k].2)] := by
  rw [List.take_add_one, List.getElem?_eq_getElem hk]
  simp only [moveJ, Option.toList_some, List.map_append, List.map_cons, List.map_nil]
  congr 2
  split <;> rfl

set_option maxRecDepth 20000 in
set_option maxHeartbeats 1000000 in
theorem qof_any (A : Option Addr) (len cap : Nat) (l : List (Int × Int)) (W : World) (h : Sl W 2 A len cap (pcells l)) (hl : len ≤ 10000) :
    Calls Try.prog 62 #[.slice A len cap] W fun e w' => ∃ A' c', e = .returned (.slice A' l.length c') ∧ w'.ownsRow W.heap.size 91 2 (.slice A' l.length c') l.length (pcells l) ∧ Below W.heap.size W w' := by
  obtain rfl := h.plen
  have HA := hid h
  clear h
  go_enter Try.func62, Try.ntmps62
  go_wp2
  go_loopw [3, 4] (fun v i wr => ∃ (k : Nat), k ≤ l.length ∧ i = .int .i64 (k : Int) ∧ Hid (wr.ownsRow W.heap.size 91 2 v k (pcells (l.take k))) ∧ Hid (Below W.heap.size W wr)) (fun _ i _ => l.length - (intOf i).toNat)
  case atStart => exact ⟨0, by omega, rfl, World.ownsRow_nil _ _ _ _, Below.refl _ _⟩
  case round =>
    obtain ⟨k, hk, rfl, HO, HB⟩ := hrel
    by_cases hlt : k < l.length
    · have hlt2 : (k : Int) < (l.length : Int) := by omega
      obtain ⟨b, off, hA⟩ := HA.out.addr (by rw [pcells_length]; omega)
      subst hA
      obtain ⟨c1, c2⟩ := HA.out.pair k hlt
      have HS := hid (pcells_take_snoc l k hlt)
      generalize l[k] = x at c1 c2 HS
      obtain ⟨x1, x2⟩ := x
      simp only at c1 c2
      generalize pcells (l.take k) = m1 at *
      have hS : ∀ U, Below W.heap.size W U → ((U.cell? ⟨b, off + k * 2, none⟩ = some (.int .i64 x1) ∧ U.cell? ⟨b, off + k * 2 + 1, none⟩ = some (.int .i64 x2)) ∧ Below W.heap.size W U) := fun U hU => ⟨⟨cellb hU c1, cellb hU c2⟩, hU⟩
      go_upto_region 5 with (fail)
      go_region_held3 (fun U => (U.cell? ⟨b, off + k * 2, none⟩ = some (.int .i64 x1) ∧ U.cell? ⟨b, off + k * 2 + 1, none⟩ = some (.int .i64 x2)) ∧ Below W.heap.size W U)
        (exact hS _ (by repeat' (first | with_reducible exact Below.refl _ _ | with_reducible exact HB.out | with_reducible exact And.right (by assumption) | with_reducible assumption | with_reducible refine below_drew ?_ | with_reducible refine bel_alloc ?_ _)))
        (first
          | (refine step_append_sl rfl (.tmp 11) (.tmp 23) 84 rfl W.heap.size 91 Try.underlying84 info_place rfl (by omega) rfl (own_keep HO.out (by repeat' (first | with_reducible exact Below.refl _ _ | with_reducible refine below_drew ?_ | with_reducible refine bel_alloc ?_ _))) rfl (by first | exact Sl.lit _ _ 2 1 #[.int .i64 x1, .int .i64 x2] rfl (by unfold maxLen; omega) | exact Sl.below (Sl.lit _ _ 2 1 #[.int .i64 x1, .int .i64 x2] rfl (by unfold maxLen; omega)) (below_drew (Below.refl _ _))) (by simp; exact ⟨rfl, rfl⟩) (by unfold maxLen; omega) (by omega) (show Below W.heap.size W _ from And.right (by assumption)).size ?_
             intro v5 w5 ho5 hb5 hsz5 hk5
             have hb6 : Below W.heap.size W w5 := (show Below W.heap.size W _ from And.right (by assumption)).trans hb5))
      go_wp2
      go_roundw
      case rel => exact ⟨k + 1, by omega, by go_num, by rw [Hid, HS.out]; exact ho5, hb6⟩
      case measure => simp [intOf]; omega
    · have hge : ¬ (k : Int) < (l.length : Int) := by omega
      have hk2 : k = l.length := by omega
      subst hk2
      go_wp2
      go_ret
      have hO := HO.out
      rw [List.take_length] at hO
      obtain ⟨A9, c9, rfl, _⟩ := Sl.of_own hO
      exact ⟨A9, c9, rfl, hO, HB.out⟩

set_option maxRecDepth 20000 in
set_option maxHeartbeats 1000000 in
theorem rmove_any (A : Option Addr) (len cap : Nat) (l : List (Int × Int)) (job s : Int) (W : World) (h : Sl W 2 A len cap (pcells l)) (hl : len ≤ 10000) :
    Calls Try.prog 71 #[.slice A len cap, .int .i64 job, .int .i64 s] W fun e w' => ∃ A' c', e = .returned (.slice A' l.length c') ∧ w'.ownsRow W.heap.size 87 2 (.slice A' l.length c') l.length (pcells (moveJ l job s)) ∧ Below W.heap.size W w' := by
  obtain rfl := h.plen
  have HA := hid h
  clear h
  go_enter Try.func71, Try.ntmps71
  go_wp2
  go_loopw [7, 8] (fun v i wr => ∃ (k : Nat), k ≤ l.length ∧ i = .int .i64 (k : Int) ∧ Hid (wr.ownsRow W.heap.size 87 2 v k (pcells (moveJ (l.take k) job s))) ∧ Hid (Below W.heap.size W wr)) (fun _ i _ => l.length - (intOf i).toNat)
  case atStart => exact ⟨0, by omega, rfl, World.ownsRow_nil _ _ _ _, Below.refl _ _⟩
  case round =>
    obtain ⟨k, hk, rfl, HO, HB⟩ := hrel
    by_cases hlt : k < l.length
    · have hlt2 : (k : Int) < (l.length : Int) := by omega
      obtain ⟨b, off, hA⟩ := HA.out.addr (by rw [pcells_length]; omega)
      subst hA
      obtain ⟨c1, c2⟩ := (HA.out.below HB.out).pair k hlt
      have HS := hid (moveJ_snoc l job s k hlt)
      generalize l[k] = x at c1 c2 HS
      obtain ⟨x1, x2⟩ := x
      simp only at c1 c2
      generalize moveJ (l.take k) job s = m1 at *
      by_cases hxy : x1 = job
      · have hd : (x1 == job) = true := by simpa using hxy
        have HE : Hid (moveJ (l.take (k + 1)) job s = m1 ++ [(x1, s)]) := hid (by rw [HS.out, if_pos hxy])
        clear hxy HS
        go_wp2_with (at_builtin; refine wpList_append_1 (W := W) rfl (.tmp 26) (.tmp 28) 82 rfl W.heap.size 87 Try.underlying82 info_rplace rfl (by omega) rfl (HO.out.alloc _) (by rw [World.size_alloc]; rfl) rfl (by simp; exact ⟨rfl, rfl⟩) ?c1 ?c2 (HB.out.alloc HB.out.size _).size (HB.out.alloc HB.out.size _) ?_)
        case c1 => unfold maxLen; omega
        case c2 => omega
        · intro v' w' h2 h3 h4
          have HO3 := hid h2; clear h2
          go_wp2
          go_roundw
          case rel => exact ⟨k + 1, by omega, by go_num, by rw [Hid, HE.out, pcells_snoc]; exact HO3.out, h3⟩
          case measure => simp [intOf]; omega
      · have hd : (x1 == job) = false := by simpa using hxy
        have HE : Hid (moveJ (l.take (k + 1)) job s = m1 ++ [(x1, x2)]) := hid (by rw [HS.out, if_neg hxy])
        clear hxy HS
        go_wp2_with (at_builtin; refine wpList_append_1 (W := W) rfl (.tmp 26) (.tmp 28) 82 rfl W.heap.size 87 Try.underlying82 info_rplace rfl (by omega) rfl (HO.out.alloc _) (by rw [World.size_alloc]; rfl) rfl (by simp; exact ⟨rfl, rfl⟩) ?c1 ?c2 (HB.out.alloc HB.out.size _).size (HB.out.alloc HB.out.size _) ?_)
        case c1 => unfold maxLen; omega
        case c2 => omega
        · intro v' w' h2 h3 h4
          have HO3 := hid h2; clear h2
          go_wp2
          go_roundw
          case rel => exact ⟨k + 1, by omega, by go_num, by rw [Hid, HE.out, pcells_snoc]; exact HO3.out, h3⟩
          case measure => simp [intOf]; omega
    · have hge : ¬ (k : Int) < (l.length : Int) := by omega
      have hk2 : k = l.length := by omega
      subst hk2
      go_wp2
      go_ret
      have hO := HO.out
      rw [List.take_length] at hO
      obtain ⟨A9, c9, rfl, _⟩ := Sl.of_own hO
      exact ⟨A9, c9, rfl, hO, HB.out⟩
end Go.Proofs.Ytadjmgmdnekllaa
