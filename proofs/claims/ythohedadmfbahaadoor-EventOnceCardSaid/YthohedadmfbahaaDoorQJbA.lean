/- job.Any: contract. -/
import Derived.Test.YthohedadmfbahaaDoorQJbM
import Derived.Test.YthohedadmfbahaaDoorQAdC
import Derived.Test.YthohedadmfbahaaDoorNeP
namespace Go.Proofs.YthohedadmfbahaaDoor
open Go.RowKit Go.Sort
set_option linter.unusedVariables false
set_option linter.unusedSimpArgs false

theorem LsOwn.push {w w' : World} {B : Nat} {A A' : Option Addr} {c c' : Nat} {ys : List Pl} (h : LsOwn w B A c ys) {p : Pl} (hp : w.ownsRow B 128 2 (.slice p.A p.l.length p.c) p.l.length (pcells p.l))
    (k1 : w'.ownsRow B 88 1 (.slice A' (ys.length + 1) c') (ys.length + 1) (plc ys ++ [.slice p.A p.l.length p.c])) (k3 : ∀ g, B ≤ g → g < w.heap.size → (Value.slice A ys.length c).ownBlock ≠ some g → w'.heap[g]? = w.heap[g]?) : LsOwn w' B A' c' (ys ++ [p]) := by
  refine ⟨by simpa [plc, Pl.cell] using k1, fun y hy => ?_⟩
  rcases List.mem_append.1 hy with hy | hy
  · exact own_other (h.2 y hy) h.1 (by decide) k3
  · obtain rfl := List.mem_singleton.1 hy
    exact own_other hp h.1 (by decide) k3
set_option maxRecDepth 20000 in
set_option maxHeartbeats 4000000 in
theorem any_all (A : Option Addr) (c : Nat) (ys : List Pl) (B : Option Addr) (cw : Nat) (ws : List Wk) (W : World) (h : LsAt W A c ys) (hy : ys.length ≤ 1000) (hl : ∀ y ∈ ys, y.l.length ≤ 1000) (hw : Sl W 3 B ws.length cw (gcells wkc ws)) (hws : ∀ x ∈ ws, x.2.2 < 18446744073709551616) (hwl : ws.length ≤ 1000) :
    Calls Tryd.prog 59 #[.slice A ys.length c, .slice B ws.length cw] W fun e w' => e = .returned (.int .u64 (anyS (pls ys) ws ys.length : Nat)) ∧ Below W.heap.size W w' := by
  have HA := hid (fun w (hb : Below W.heap.size W w) => h.below hb)
  have HC := hid (fun (y : Pl) (hm : y ∈ ys) w (hb : Below W.heap.size W w) (hs : Sl w 2 y.A y.l.length y.c (pcells y.l)) => workers_any y.A y.c y.l B cw ws w hs (hl y hm) (hw.below hb) hws hwl)
  have hyl : (ys.length : Int) ≤ 1000 := by omega
  have HG : Hid (∀ k (hk : k < ys.length), (pls ys).getD k [] = ys[k].l) := hid (fun k hk => by
    rw [List.getD_eq_getElem?_getD]
    simp [pls, List.getElem?_eq_getElem hk])
  generalize hwn : ws.length = wn at *
  clear h hl hw hws
  go_enter Tryd.func59, Tryd.ntmps59
  go_wp2_with fail
  go_loopw [5, 7, 10] (fun s _ i wr => ∃ k : Nat, k ≤ ys.length ∧ i = .int .i64 (k : Int) ∧ s = .int .u64 (anyS (pls ys) ws k : Nat) ∧ Hid (Below W.heap.size W wr)) (fun _ _ i _ => ys.length - (intOf i).toNat)
  case atStart => exact ⟨0, by omega, rfl, rfl, Below.refl _ _⟩
  case round =>
    obtain ⟨k, hk, rfl, rfl, HB⟩ := hrel
    by_cases hlt : k < ys.length
    · have hlt2 : (k : Int) < (ys.length : Int) := by omega
      obtain ⟨b1, o1, rfl, hc1, hs1⟩ := (HA.out _ HB.out).get k hlt
      have HCC := hid (HC.out _ (List.getElem_mem hlt) _ HB.out hs1)
      have HV : Hid (anyS (pls ys) ws (k + 1) = anyS (pls ys) ws k ||| wkS ((pls ys).getD k []) ws) := hid rfl
      rw [HG.out k hlt] at HV
      have ha := anyS_lt (pls ys) ws k
      clear hs1
      generalize ys[k] = y at *
      obtain ⟨yl, yA, yc⟩ := y
      simp only [Pl.cell] at hc1 HCC HV
      have hb := wkS_lt yl ws
      generalize wkS yl ws = x at *
      generalize anyS (pls ys) ws k = v0 at *
      have HOR := hid (u64_or_nat v0 x ha hb)
      clear ha hb
      go_wp2_with fail
      refine HCC.out.mono ?_
      rintro e w2 ⟨rfl, hb2⟩
      have HB2 := hid (HB.out.trans (hb2.mono HB.out.size))
      clear hb2 HCC
      go_wp2
      go_roundw
      case rel => exact ⟨k + 1, by omega, by go_num, by rw [HV.out, HOR.out], HB2.out⟩
      case measure => simp [intOf]; omega
    · have hge : ¬ (k : Int) < (ys.length : Int) := by omega
      obtain rfl : k = ys.length := by omega
      go_wp2
      go_ret
      exact ⟨rfl, HB.out⟩

end Go.Proofs.YthohedadmfbahaaDoor
