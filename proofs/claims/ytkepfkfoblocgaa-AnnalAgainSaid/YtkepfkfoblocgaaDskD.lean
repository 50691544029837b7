/- disk: Append, Fuse, contracts; the works of the law. -/
import Derived.Test.YtkepfkfoblocgaaDskC
import Derived.Deep.RegionWith
namespace Go.Proofs.Ytkepfkfoblocgaa
open Go.RowKit
set_option linter.unusedVariables false
set_option linter.unusedSimpArgs false

def apE (room : Nat) (l m : List UInt8) (armed : Bool) : Int := if room < l.length + m.length then 7 else if armed then 14 else 0
def apL (room : Nat) (l m : List UInt8) (armed : Bool) (fuse : Nat) : List UInt8 := if room < l.length + m.length then l else if armed then l ++ m.take fuse else l ++ m
def apA (room : Nat) (l m : List UInt8) (armed : Bool) : Bool := if room < l.length + m.length then armed else false
theorem below_drewN0 (W : World) (q : Nat) : Below W.heap.size W (W.drewN q) := ⟨rfl, rfl, rfl, Nat.le_refl _, fun _ _ => rfl⟩

set_option maxRecDepth 20000 in
set_option maxHeartbeats 1000000 in
theorem dappend_any (D room : Nat) (l m : List UInt8) (armed : Bool) (fuse : Nat) (A2 : Option Addr) (c2 : Nat) (W : World) (h : DiskAt W D room l armed fuse) (h2 : IsBytes W A2 m.length c2 m) (hr : room ≤ 65536) (hl : l.length ≤ room) (hm : m.length ≤ 100000) :
    Calls Try.prog 17 #[.pointer (some ⟨D, 0, none⟩), .slice A2 m.length c2] W fun e w' => e = .returned (.int .i64 (apE room l m armed)) ∧ DiskAt w' D room (apL room l m armed fuse) (apA room l m armed) fuse ∧ Only D W w' := by
  have HF := hid (dfree_any D room l armed fuse W h hr hl)
  have HD := hid h
  have HM := hid h2
  have hmc : m.length ≤ c2 := h2.2.1
  clear h h2
  by_cases hfull : room < l.length + m.length
  · have d1 : decide ((room : Int) - (l.length : Int) < (m.length : Int)) = true := decide_eq_true (by omega)
    have d2 : (room : Int) - (l.length : Int) < (m.length : Int) := by omega
    have HV : Hid (apE room l m armed = 7 ∧ apL room l m armed fuse = l ∧ apA room l m armed = armed) := hid ⟨if_pos hfull, if_pos hfull, if_pos hfull⟩
    clear hfull hr hl hm
    go_enter Try.func17, Try.ntmps17
    go_wp2_with fail
    refine HF.out.mono ?_
    rintro x w1 ⟨rfl, q, rfl⟩
    go_wp2
    go_ret
    rw [HV.out.1, HV.out.2.1, HV.out.2.2]
    exact ⟨rfl, HD.out.below (below_drewN0 _ _), Only.of_below (below_drewN0 _ _)⟩
  · have d1 : decide ((room : Int) - (l.length : Int) < (m.length : Int)) = false := decide_eq_false (by omega)
    have d2 : (m.length : Int) ≤ (room : Int) - (l.length : Int) := by omega
    have HV : Hid (apE room l m armed = (if armed then 14 else 0) ∧ apL room l m armed fuse = (if armed then l ++ m.take fuse else l ++ m) ∧ apA room l m armed = false) := hid ⟨if_neg hfull, if_neg hfull, if_neg hfull⟩
    have hl5 : l.length ≤ 100000 := by omega
    clear hfull hr hl
    go_enter Try.func17, Try.ntmps17
    go_wp2_with fail
    refine HF.out.mono ?_
    rintro x w1 ⟨rfl, q, rfl⟩
    clear HF
    go_upto_region 5 with (fail)
    refine at_world (fun w => DiskAt w D room l armed fuse ∧ IsBytes w A2 m.length c2 m ∧ Below W.heap.size W w) ⟨HD.out.below (below_drewN0 _ _), HM.out.below (below_drewN0 _ _), below_drewN0 _ _⟩ ?_
    rintro w2 ⟨hD, hM, hB⟩
    obtain ⟨A9, c9, h9, _⟩ := hD.open
    obtain ⟨⟨p0, p1, p2, p3⟩, f0, f1, f2, f3⟩ := four_cells h9
    have HD2 := hid hD
    have HM2 := hid hM
    have HB2 := hid hB
    clear h9 hD hM hB d1 d2
    cases armed
    case false =>
      have HW := hid (dwrite_any D room l m false fuse A2 c2 w2 HD2.out HM2.out hl5 hm)
      go_wp2_with fail
      refine HW.out.mono ?_
      rintro x w3 ⟨⟨v, rfl⟩, hD3, hO3⟩
      have HD3 := hid hD3
      have HO3 := hid ((Only.of_below HB2.out).trans hO3)
      clear hD3 hO3 HW p0 p1 p2 p3 f0 f1 f2 f3
      go_wp2
      go_ret
      rw [HV.out.1, HV.out.2.1, HV.out.2.2]
      exact ⟨rfl, HD3.out, HO3.out⟩
    case true =>
      go_upto_region 7 with (fail)
      refine at_world (fun w => DiskAt w D room l false fuse ∧ IsBytes w A2 m.length c2 m ∧ Only D W w) ⟨HD2.out.setA false, isBytes_disk HM2.out HD2.out ((Only.refl _ _).set 2 _), (Only.of_below HB2.out).set 2 _⟩ ?_
      clear HD2 HM2 HB2 p0 p1 p2 p3 f0 f1 f2 f3
      rintro w3 ⟨hD, hM, hO⟩
      obtain ⟨A9, c9, h9, _⟩ := hD.open
      obtain ⟨⟨p0, p1, p2, p3⟩, f0, f1, f2, f3⟩ := four_cells h9
      have HO3 := hid hO
      obtain ⟨j, hj⟩ : ∃ j, min fuse m.length = j := ⟨_, rfl⟩
      have hjm : j ≤ m.length := by omega
      have hmin : min (fuse : Int) (m.length : Int) = (j : Int) := by omega
      have htk : m.take fuse = m.take j := by
        rcases Nat.le_total fuse m.length with h | h
        · rw [← hj, Nat.min_eq_left h]
        · rw [← hj, Nat.min_eq_right h, List.take_length, List.take_of_length_le h]
      have hjl : (m.take j).length = j := by rw [List.length_take]; omega
      have hsl : ∀ w : World, (Instr.slice 24 (.slice A2 m.length c2) none (some (.int .i64 (j : Int))) none).run Try.prog w = .ok (.slice A2 j c2) w := run_to Try.underlying24 info_u8K A2 m.length c2 j (by omega)
      have HW := hid (dwrite_any D room l (m.take j) false fuse A2 c2 w3 hD (by rw [hjl]; exact hM.take j hjm) hl5 (by omega))
      rw [hjl] at HW
      have HTK := hid htk
      have HMIN := hid hmin
      clear h9 hO hD hM hj htk hjl hmin
      go_wp2_with fail
      rw [show (min (fuse : Int) (m.length : Int)).toNat = j by rw [HMIN.out]; rfl]
      refine HW.out.mono ?_
      rintro x w4 ⟨⟨v, rfl⟩, hD4, hO4⟩
      have HD4 := hid hD4
      have HO4 := hid (HO3.out.trans hO4)
      have HV2 : Hid (apE room l m true = 14 ∧ apL room l m true fuse = l ++ m.take fuse ∧ apA room l m true = false) := hid (by simpa using HV.out)
      clear hD4 hO4 HW HO3 hsl p0 p1 p2 p3 f0 f1 f2 f3 HV
      go_wp2
      go_ret
      rw [HV2.out.1, HV2.out.2.1, HV2.out.2.2, HTK.out]
      exact ⟨rfl, HD4.out, HO4.out⟩

theorem dfuse_any (D room : Nat) (l : List UInt8) (armed : Bool) (fuse : Nat) (n : Int) (W : World) (h : DiskAt W D room l armed fuse) :
    Calls Try.prog 19 #[.pointer (some ⟨D, 0, none⟩), .int .i64 n] W fun e w' => (∃ v, e = .returned v) ∧ DiskAt w' D room l (decide (0 ≤ n)) n.toNat ∧ Only D W w' := by
  obtain ⟨A9, c9, h9, _⟩ := h.open
  obtain ⟨⟨p0, p1, p2, p3⟩, f0, f1, f2, f3⟩ := four_cells h9
  have HD := hid h
  clear h9 h
  rcases (by omega : n < 0 ∨ 0 ≤ n) with hn | hn
  · have d1 : decide (0 ≤ n) = false := decide_eq_false (by omega)
    have hmx : max n 0 = 0 := by omega
    have HT : Hid (n.toNat = 0) := hid (by omega)
    go_enter Try.func19, Try.ntmps19
    go_wp2
    go_end0
    rw [HT.out, d1]
    exact ⟨⟨_, rfl⟩, (HD.out.setA false).setF 0, ((Only.refl _ _).set 2 _).set 3 _⟩
  · obtain ⟨k, rfl⟩ := Int.eq_ofNat_of_zero_le hn
    have d1 : decide (0 ≤ (k : Int)) = true := decide_eq_true (by omega)
    have hmx : max (k : Int) 0 = (k : Int) := by omega
    go_enter Try.func19, Try.ntmps19
    go_wp2
    go_end0
    rw [d1]
    exact ⟨⟨_, rfl⟩, (HD.out.setA true).setF k, ((Only.refl _ _).set 2 _).set 3 _⟩

theorem dfuse0 (n : Int) (W : World) : Calls Try.prog 19 #[.pointer none, .int .i64 n] W fun e w' => (∃ v, e = .returned v) ∧ W = w' := by
  go_enter Try.func19, Try.ntmps19
  go_wp2
  (try simp only [Exit.inBlock, Exit.then])
  exact bodyPost_ret (results_none rfl _ _ _) rfl ⟨⟨_, rfl⟩, rfl⟩
theorem dbytes0 (W : World) : Calls Try.prog 23 #[.pointer none] W fun e w' => e = .returned (.slice none 0 0) ∧ W = w' := by
  go_enter Try.func23, Try.ntmps23
  go_wp2
  go_ret
  exact ⟨rfl, rfl⟩
theorem dappend0 (v : Value) (W : World) : Calls Try.prog 17 #[.pointer none, v] W fun e w' => e = .returned (.int .i64 1) ∧ W = w' := by
  go_enter Try.func17, Try.ntmps17
  go_wp2
  go_ret
  exact ⟨rfl, rfl⟩
end Go.Proofs.Ytkepfkfoblocgaa
