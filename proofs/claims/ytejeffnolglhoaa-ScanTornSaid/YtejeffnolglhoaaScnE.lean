/- The page's example of scan. -/
import Derived.Test.YtejeffnolglhoaaScnD
namespace Go.Proofs.Ytejeffnolglhoaa
open Go.RowKit
set_option linter.unusedVariables false
set_option linter.unusedSimpArgs false

theorem rowR_open {w : World} {B : Nat} {v : Value} {els : List El} (h : RowR w B v els) (h0 : 0 < els.length) : ∃ g c, v = .slice (some ⟨g, 0, none⟩) els.length c ∧ Sl w 7 (some ⟨g, 0, none⟩) els.length c (ecells els) := by
  have h1 := h.1
  rcases h.1.2 with ⟨rfl, h2⟩ | ⟨g, cap, cur, rfl, _⟩
  · omega
  · exact ⟨g, cap, rfl, sl_own h1⟩
theorem slice_to12 {W : World} {a : Option Addr} {cap n : Nat} {l : List UInt8} (h : IsBytes W a n cap l) (g : Nat) (hg : g ≤ n) :
    (∀ w : World, (Instr.slice 27 (.slice a n cap) none (some (.int .i64 (g : Int))) none).run Try.prog w = .ok (.slice a g cap) w) ∧ IsBytes W a g cap (l.take g) := by
  obtain ⟨rfl, hlc, hcm⟩ := h.len
  refine ⟨run_to Try.underlying27 info_u8 a l.length cap g (by omega), ?_⟩
  exact h.take g hg

set_option maxRecDepth 20000 in
set_option maxHeartbeats 4000000 in
theorem works18_any (W : World) : Calls Try.prog 25 #[] W fun e w' => e = .returned (.bool true) ∧ Below W.heap.size W w' := by
  have hb0 : Below W.heap.size W (W.alloc (.cells #[.int .i64 3, .int .i64 5, .int .i64 2, .int .i64 0, .int .i64 0, .int .i64 0, .slice none 0 0, .int .i64 3, .int .i64 5, .int .i64 3, .int .i64 0, .int .i64 0, .int .i64 0, .slice none 0 0] 24)) := (Below.refl _ _).alloc (Nat.le_refl _) _
  have hin : InR (W.alloc (.cells #[.int .i64 3, .int .i64 5, .int .i64 2, .int .i64 0, .int .i64 0, .int .i64 0, .slice none 0 0, .int .i64 3, .int .i64 5, .int .i64 3, .int .i64 0, .int .i64 0, .int .i64 0, .slice none 0 0] 24)) (some ⟨W.heap.size, 0, none⟩) 2 [(⟨3, 5, 2, 0, 0, 0, []⟩, none, 0), (⟨3, 5, 3, 0, 0, 0, []⟩, none, 0)] := by
    refine ⟨Sl.lit W 24 7 2 #[.int .i64 3, .int .i64 5, .int .i64 2, .int .i64 0, .int .i64 0, .int .i64 0, .slice none 0 0, .int .i64 3, .int .i64 5, .int .i64 3, .int .i64 0, .int .i64 0, .int .i64 0, .slice none 0 0] rfl (by unfold maxLen; omega), fun e he => ?_⟩
    simp only [List.mem_cons, List.not_mem_nil, or_false] at he
    rcases he with rfl | rfl
    · exact ⟨Sl.nil _ _ _ _ (Nat.zero_le _), by simp⟩
    · exact ⟨Sl.nil _ _ _ _ (Nat.zero_le _), by simp⟩
  have HB := hid (sbytes_any _ _ _ _ hin (by simp))
  have HB0 := hid hb0
  have hlen := ex18_bytes.1
  have HRX := hid ex18_bytes.2
  simp only [List.map_cons, List.map_nil] at HB
  have HL2 : Hid ([((⟨3, 5, 2, 0, 0, 0, []⟩ : Rc), (none : Option Addr), 0), ((⟨3, 5, 3, 0, 0, 0, []⟩ : Rc), (none : Option Addr), 0)].length = 2) := hid rfl
  rw [show ([((⟨3, 5, 2, 0, 0, 0, []⟩ : Rc), (none : Option Addr), 0), ((⟨3, 5, 3, 0, 0, 0, []⟩ : Rc), (none : Option Addr), 0)] : List El).length = 2 from rfl] at HB
  generalize recB [⟨3, 5, 2, 0, 0, 0, []⟩, ⟨3, 5, 3, 0, 0, 0, []⟩] = L at *
  rw [hlen] at HB
  clear hin hb0 HL2
  go_enter Try.func25, Try.ntmps25
  go_wp2_with fail
  refine HB.out.mono ?_
  rintro q w1 ⟨A1, c1, rfl, ho1, hb1⟩
  have hby := ho1.bytes
  rw [hlen] at hby
  obtain ⟨hsl0, hb12⟩ := slice_to12 hby 12 (by omega)
  have hsl : ∀ w : World, (Instr.slice 27 (.slice A1 16 c1) none (some (.int .i64 12)) none).run Try.prog w = .ok (.slice A1 12 c1) w := hsl0
  clear hsl0
  have hl12 : (L.take 12).length = 12 := by rw [List.length_take]; omega
  have HR := hid (records_any A1 12 c1 (L.take 12) w1 hb12 (by omega))
  rw [HRX.out] at HR
  have HB1 := hid (HB0.out.trans (hb1.mono HB0.out.size))
  clear hb1 ho1 hby hb12 hl12 HB HRX HB0 hlen
  go_wp2_with fail
  refine HR.out.mono ?_
  rintro q w2 ⟨v, els, rfl, hm, hr, hb2⟩
  have HB2 := hid (HB1.out.trans (hb2.mono HB1.out.size))
  obtain ⟨e, rfl⟩ : ∃ e, els = [e] := by
    have h1 := congrArg List.length hm
    rw [List.length_map] at h1
    exact List.length_eq_one_iff.1 h1
  have he : e.1 = ⟨3, 5, 2, 0, 0, 0, []⟩ := by simpa using hm
  obtain ⟨g, c, rfl, hs⟩ := rowR_open hr (by simp)
  have hx := (Sl.el hs 0 (by simp)).2.2.1
  simp only [List.getElem_cons_zero, he, Nat.zero_mul, Nat.zero_add, Nat.add_zero] at hx
  clear hm hr hb2 he hs HB1 HR hsl
  generalize hel : [e].length = n at *
  obtain rfl : n = 1 := hel.symm
  clear hel
  go_wp2
  go_ret
  exact ⟨rfl, HB2.out⟩
end Go.Proofs.Ytejeffnolglhoaa
