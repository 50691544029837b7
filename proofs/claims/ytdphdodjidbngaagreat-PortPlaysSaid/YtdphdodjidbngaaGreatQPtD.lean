/- port.encoded. -/
import Derived.Test.YtdphdodjidbngaaGreatPtX
import Derived.Test.YtdphdodjidbngaaGreatPaR
namespace Go.Proofs.YtdphdodjidbngaaGreat
open Go.RowKit Go.Sort
set_option linter.unusedVariables false
set_option linter.unusedSimpArgs false

/-- The bytes of a packet. -/
def pbL (x : Pk) : List UInt8 := (pbS x.k x.f x.t x.i x.p x.s (str x.b)).data.toList
theorem pbL_str (x : Pk) : str (pbL x) = pbS x.k x.f x.t x.i x.p x.s (str x.b) := by simp [pbL, str]
theorem Sl.pkt {w : World} {A : Option Addr} {len cap : Nat} {l : List Pk} (h : Sl w 7 A len cap (gcells pkc l)) (k : Nat) (hk : k < l.length) : ∃ b off, A = some ⟨b, off, none⟩ ∧ w.cell? ⟨b, off + k * 7, none⟩ = some (.int .i64 l[k].k) ∧ w.cell? ⟨b, off + k * 7 + 1, none⟩ = some (.int .i64 l[k].f) ∧ w.cell? ⟨b, off + k * 7 + 2, none⟩ = some (.int .i64 l[k].t) ∧ w.cell? ⟨b, off + k * 7 + 3, none⟩ = some (.int .i64 l[k].i) ∧ w.cell? ⟨b, off + k * 7 + 4, none⟩ = some (.int .i64 l[k].p) ∧ w.cell? ⟨b, off + k * 7 + 5, none⟩ = some (.int .i64 l[k].s) ∧ w.cell? ⟨b, off + k * 7 + 6, none⟩ = some (.string (str l[k].b)) := by
  obtain ⟨b, off, rfl, hc⟩ := h.gat pkc_len k hk (by omega)
  exact ⟨b, off, rfl, hc 0 _ rfl, hc 1 _ rfl, hc 2 _ rfl, hc 3 _ rfl, hc 4 _ rfl, hc 5 _ rfl, hc 6 _ rfl⟩

set_option maxRecDepth 20000 in
set_option maxHeartbeats 4000000 in
theorem encoded_any (A : Option Addr) (len cap : Nat) (l : List Pk) (W : World) (h : Sl W 7 A len cap (gcells pkc l)) (hl : l.length ≤ 1000) (hb : ∀ x ∈ l, x.b.length ≤ 1000) :
    Calls Tryz.prog 25 #[.slice A len cap] W fun e w' => ∃ v, e = .returned v ∧ w'.ownsRow W.heap.size 9 1 v l.length (scells (l.map pbL)) ∧ Below W.heap.size W w' := by
  obtain rfl : len = l.length := Sl.glen pkc_len (by omega) h
  have HA := hid h
  have HP := hid (fun k (hk : k < l.length) w => pbytes_any l[k].k l[k].f l[k].t l[k].i l[k].p l[k].s (str l[k].b) (by rw [str_size]; exact hb _ (List.getElem_mem hk)) w)
  have HM := hid hl
  clear h hb hl
  go_enter Tryz.func25, Tryz.ntmps25
  go_wp2
  go_loopw [3, 8] (fun v i wr => ∃ (k : Nat), k ≤ l.length ∧ i = .int .i64 (k : Int) ∧ Hid (wr.ownsRow W.heap.size 9 1 v k (scells ((l.map pbL).take k))) ∧ Hid (Below W.heap.size W wr)) (fun _ i _ => l.length - (intOf i).toNat)
  case atStart => exact ⟨0, by omega, rfl, World.ownsRow_nil _ _ _ _, Below.refl _ _⟩
  case round =>
    obtain ⟨k, hk, rfl, HO, HB⟩ := hrel
    by_cases hlt : k < l.length
    · have hlt2 : (k : Int) < (l.length : Int) := by omega
      obtain ⟨b, off, rfl, c0, c1, c2, c3, c4, c5, c6⟩ := HA.out.pkt k hlt
      have c0 := cellb HB.out c0
      have c1 := cellb HB.out c1
      have c2 := cellb HB.out c2
      have c3 := cellb HB.out c3
      have c4 := cellb HB.out c4
      have c5 := cellb HB.out c5
      have c6 := cellb HB.out c6
      have HC := hid (HP.out k hlt)
      have HE : Hid (scells ((l.map pbL).take (k + 1)) = scells ((l.map pbL).take k) ++ [.string (pbS l[k].k l[k].f l[k].t l[k].i l[k].p l[k].s (str l[k].b))]) := hid (by rw [List.take_succ_eq_append_getElem (by simpa using hlt), scells_append, ← pbL_str]; simp [scells])
      generalize pbS l[k].k l[k].f l[k].t l[k].i l[k].p l[k].s (str l[k].b) = y at HC HE
      generalize l[k] = x at *
      obtain ⟨xk, xf, xt, xi, xp, xs, xb⟩ := x
      dsimp only at *
      go_wp2_with fail
      refine (HC.out _).mono ?_
      rintro e w' ⟨rfl, hb2⟩
      have hbb := ((Below.refl wr.heap.size wr).alloc (Nat.le_refl _) _).trans (hb2.mono (by rw [World.size_alloc]; omega))
      have HO2 := hid (own_keep HO.out hbb)
      have HB2 := hid (HB.out.trans (hbb.mono HB.out.size))
      clear hb2 hbb HO HB HC c0 c1 c2 c3 c4 c5 c6
      go_wp2_with (at_builtin; refine wpList_append_1 (W := W) rfl (.tmp 12) (.tmp 15) 33 rfl W.heap.size 9 Tryz.underlying33 info_str rfl (by omega) rfl HO2.out rfl rfl (by simp; rfl) ?c1 ?c2 HB2.out.size HB2.out ?_)
      case c1 => unfold maxLen; have := HM.out; omega
      case c2 => have := HM.out; omega
      · intro v' w4 h2 h3 h4
        have HO3 := hid h2
        clear h2
        have hM := HM.out
        have hw : IntKind.i64.wrap ((k : Int) + 1) = (k : Int) + 1 := IntWalk.i64_in _ (by omega)
        go_wp2
        go_roundw
        case rel => exact ⟨k + 1, by omega, by go_num, by rw [Hid, HE.out]; exact HO3.out, h3⟩
        case measure => simp [intOf]; omega
    · have hge : ¬ (k : Int) < (l.length : Int) := by omega
      obtain rfl : k = l.length := by omega
      go_wp2
      go_ret
      have hO := HO.out
      rw [List.take_of_length_le (by simp)] at hO
      exact ⟨_, rfl, hO, HB.out⟩
end Go.Proofs.YtdphdodjidbngaaGreat

