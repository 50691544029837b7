/- net: Send, Twice, Take. -/
import Derived.Test.YtdphdodjidbngaaNetC
import Derived.Test.YtdphdodjidbngaaStrL
namespace Go.Proofs.Ytdphdodjidbngaa
open Go.RowKit
set_option linter.unusedVariables false
set_option linter.unusedSimpArgs false

def tgs (f t : Int) (l : List (List UInt8)) : List Tg := l.map fun s => Tg.mk f t s false
/-- What Send makes of a net. -/
def sendL (m : Int) (f t : Int) : List Tg → List (List UInt8) → List Tg
  | l, [] => l
  | l, s :: ss => sendL m f t (if (l.length : Int) < m then l ++ [Tg.mk f t s false] else l) ss
def sendN (m : Int) : Nat → List (List UInt8) → Nat
  | n, [] => 0
  | n, s :: ss => if (n : Int) < m then sendN m (n + 1) ss + 1 else sendN m n ss
theorem sendL_snoc (m f t : Int) : ∀ (l : List Tg) (a : List (List UInt8)) (s : List UInt8), sendL m f t l (a ++ [s]) = (if ((sendL m f t l a).length : Int) < m then sendL m f t l a ++ [Tg.mk f t s false] else sendL m f t l a)
  | l, [], s => rfl
  | l, x :: a, s => by rw [List.cons_append, sendL, sendL_snoc]; rfl
theorem sendL_len (m f t : Int) : ∀ (l : List Tg) (a : List (List UInt8)), l.length ≤ (sendL m f t l a).length ∧ (sendL m f t l a).length ≤ l.length + a.length
  | l, [] => ⟨Nat.le_refl _, Nat.le_refl _⟩
  | l, x :: a => by
    rw [sendL]
    have h := sendL_len m f t (if (l.length : Int) < m then l ++ [Tg.mk f t x false] else l) a
    split at h
    · rename_i h9
      rw [if_pos h9]
      rw [List.length_append, List.length_singleton] at h
      rw [List.length_cons]
      omega
    · rename_i h9
      rw [if_neg h9, List.length_cons]
      omega

set_option maxRecDepth 20000 in
set_option maxHeartbeats 4000000 in
theorem nsend_any (B b : Nat) (m f t : Int) (l : List Tg) (A : Option Addr) (cap : Nat) (ss : List (List UInt8)) (W : World) (h : NetAt B b m l W) (hA : Sl W 1 A ss.length cap (scells ss)) (hAo : ∀ w, Below B W w → Othr b W w → Sl w 1 A ss.length cap (scells ss)) (hB : B ≤ W.heap.size) (hl : l.length ≤ 50000) (hs : ss.length ≤ 50000) :
    Calls Try.prog 25 #[.pointer (some ⟨b, 0, none⟩), .int .i64 f, .int .i64 t, .slice A ss.length cap] W fun e w' => e = .returned (.int .i64 (((sendL m f t l ss).length : Int) - (l.length : Int))) ∧ NetAt B b m (sendL m f t l ss) w' ∧ Below B W w' ∧ Othr b W w' := by
  have HN := hid h
  have HA := hid hAo
  clear h hA hAo
  go_enter Try.func25, Try.ntmps25
  go_wp2
  go_loopw [9, 16] (fun v i wr => ∃ k : Nat, k ≤ ss.length ∧ i = .int .i64 (k : Int) ∧ v = .int .i64 (((sendL m f t l (ss.take k)).length : Int) - (l.length : Int)) ∧ Hid (NetAt B b m (sendL m f t l (ss.take k)) wr) ∧ Hid (Below B W wr) ∧ Hid (Othr b W wr)) (fun _ i _ => ss.length - (intOf i).toNat)
  case atStart => exact ⟨0, by omega, rfl, by simp [sendL], HN.out, Below.refl _ _, Othr.refl _ _⟩
  case round =>
    obtain ⟨k, hk, rfl, rfl, HN2, HB2, HO2⟩ := hrel
    have HLE := hid (sendL_len m f t l (ss.take k))
    have HTL : Hid ((ss.take k).length ≤ k) := hid (by rw [List.length_take]; omega)
    by_cases hlt : k < ss.length
    · have hlt2 : (k : Int) < (ss.length : Int) := by omega
      obtain ⟨b', off, rfl, hc⟩ := Sl.at (HA.out wr HB2.out HO2.out) k (by rw [scells_length]; exact hlt)
      have e1 : (scells ss)[k]'(by rw [scells_length]; exact hlt) = .string (str (ss[k]'hlt)) := by simp [scells]
      rw [e1] at hc
      have HSN := hid (sendL_snoc m f t l (ss.take k) ss[k])
      rw [← List.take_succ_eq_append_getElem hlt] at HSN
      generalize ss[k]'hlt = s at hc HSN
      generalize hX : sendL m f t l (ss.take k) = X at *
      clear hX
      have hxl : X.length ≤ 100000 := by have h1 := HLE.out; have h2 := HTL.out; omega
      have hxl2 : l.length ≤ X.length := HLE.out.1
      clear e1
      have HAD := hid (nadd_any B b m X (Tg.mk f t s false) wr HN2.out (Nat.le_trans hB HB2.out.size) hxl)
      rw [← HSN.out] at HAD
      go_wp2_with fail
      refine HAD.out.mono ?_
      rintro e w3 ⟨rfl, hn3, hb3, ho3⟩
      have HN3 := hid hn3
      have HB3 := hid (HB2.out.trans hb3)
      have HO3 := hid (HO2.out.trans ho3)
      clear hn3 hb3 ho3 HAD HN2 HB2 HO2 hc
      by_cases hm : (X.length : Int) < m
      · have HV : Hid (sendL m f t l (ss.take (k + 1)) = X ++ [Tg.mk f t s false]) := hid (by rw [HSN.out, if_pos hm])
        have hd : decide ((X.length : Int) < m) = true := decide_eq_true hm
        go_wp2
        go_roundw
        case rel => exact ⟨k + 1, by omega, by go_num, by rw [HV.out, List.length_append, List.length_singleton]; go_num, HN3.out, HB3.out, HO3.out⟩
        case measure => simp [intOf]; omega
      · have HV : Hid (sendL m f t l (ss.take (k + 1)) = X) := hid (by rw [HSN.out, if_neg hm])
        have hd : decide ((X.length : Int) < m) = false := decide_eq_false hm
        go_wp2
        go_roundw
        case rel => exact ⟨k + 1, by omega, by go_num, by rw [HV.out], HN3.out, HB3.out, HO3.out⟩
        case measure => simp [intOf]; omega
    · obtain rfl : k = ss.length := by omega
      have hge : ¬ ((ss.length : Nat) : Int) < ((ss.length : Nat) : Int) := by omega
      have HT := hid (List.take_length (l := ss))
      rw [Hid, HT.out] at HN2
      clear hlt hk
      go_wp2
      go_ret
      exact ⟨by simp, HN2, HB2.out, HO2.out⟩
end Go.Proofs.Ytdphdodjidbngaa

