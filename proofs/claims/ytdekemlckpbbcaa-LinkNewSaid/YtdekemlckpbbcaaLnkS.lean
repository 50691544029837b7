/- does: contract. -/
import Derived.Test.YtdekemlckpbbcaaLnkR
import Derived.BigQuiet
namespace Go.Proofs.Ytdekemlckpbbcaa
open Go.RowKit Go.Sort
set_option linter.unusedVariables false
set_option linter.unusedSimpArgs false

def DoR (N M : Nat) (W : World) (g : Nat) (e : Ending) (u' : World) : Prop :=
  (∃ v, e = .returned v) ∧ ∃ a b w A ca B cb D cd, PX W u' g (mkP a b w) A ca B cb D cd ∧ InvS N M a b w

set_option maxRecDepth 20000 in
set_option maxHeartbeats 8000000 in
theorem does0_any {N M : Nat} {a b : Sd} {w : List Pk} (hI : InvS N M a b w) (hN : N ≤ 1000) (hM : M ≤ 10000) (n : Int) (g : Nat) (W u : World) (A : Option Addr) (ca : Nat) (B : Option Addr) (cb : Nat) (D : Option Addr) (cd : Nat) (h : PX W u g (mkP a b w) A ca B cb D cd) :
    Calls Try.prog 32 #[.pointer (some ⟨g, 0, none⟩), .agg #[.int .i64 0, .int .i64 n]] u (DoR (N + 1) (M + 1) W g) := by
  have hq := hI.ab.h4
  have hq2 := hI.ab.h1
  have hq3 := hI.ab.h3
  have hr := hI.ba.h4
  have hr2 := hI.ba.h1
  have hr3 := hI.ba.h3
  have hna := hI.na
  have hnb := hI.nb
  have hwl := hI.wl
  have HP := hid (fun u h => puts0_any (mkP a b w) g W u A ca B cb D cd h (by show (namesT a.q a.n).length ≤ 999; rw [namesT_len]; omega) (by show w.length ≤ 100000; omega) (by show (0 : Int) ≤ (a.n : Int); omega) (by show (a.n : Int) ≤ _; omega))
  have HV := hid (puts0_mk a b w (by omega) (by omega))
  have HI := hid (inv_put0 hI)
  generalize mkP a b w = x at *
  clear hq hq2 hq3 hr hr2 hr3 hna hnb hwl hI
  generalize puts0V x = y at *
  have HK := hid (h.keep ((Below.refl _ _).alloc (Nat.le_refl _) (.cells #[.int .i64 0, .int .i64 n] 84)))
  clear h
  go_enter Try.func32, Try.ntmps32
  go_wp2_with fail
  refine (HP.out _ HK.out).mono ?_
  rintro e u1 ⟨⟨v, rfl⟩, A, ca, B, cb, D, cd, hx⟩
  have HX := hid hx
  clear hx
  go_wp2
  refine bodyPost_ret (results_none rfl _ _ _) rfl ?_
  exact ⟨⟨_, rfl⟩, putS a, b, w ++ putL 0 8 a, A, ca, B, cb, D, cd, by rw [← HV.out]; exact HX.out, HI.out⟩

set_option maxRecDepth 20000 in
set_option maxHeartbeats 8000000 in
theorem does1_any {N M : Nat} {a b : Sd} {w : List Pk} (hI : InvS N M a b w) (hN : N ≤ 1000) (hM : M ≤ 10000) (n : Int) (g : Nat) (W u : World) (A : Option Addr) (ca : Nat) (B : Option Addr) (cb : Nat) (D : Option Addr) (cd : Nat) (h : PX W u g (mkP a b w) A ca B cb D cd) :
    Calls Try.prog 32 #[.pointer (some ⟨g, 0, none⟩), .agg #[.int .i64 1, .int .i64 n]] u (DoR (N + 1) (M + 1) W g) := by
  have hq := hI.ab.h4
  have hq2 := hI.ab.h1
  have hq3 := hI.ab.h3
  have hr := hI.ba.h4
  have hr2 := hI.ba.h1
  have hr3 := hI.ba.h3
  have hna := hI.na
  have hnb := hI.nb
  have hwl := hI.wl
  have HP := hid (fun u h => puts1_any (mkP a b w) g W u A ca B cb D cd h (by show (namesT a.q a.n).length ≤ 999; rw [namesT_len]; omega) (by show (namesT b.q b.n).length ≤ 999; rw [namesT_len]; omega) (by show w.length ≤ 100000; omega) (by show (0 : Int) ≤ (a.n : Int); omega) (by show (a.n : Int) ≤ _; omega) (by show (0 : Int) ≤ (b.n : Int); omega) (by show (b.n : Int) ≤ _; omega))
  have HV := hid (puts1_mk a b w (by omega) (by omega))
  have HI := hid (inv_put1 hI)
  generalize mkP a b w = x at *
  clear hq hq2 hq3 hr hr2 hr3 hna hnb hwl hI
  generalize puts1V x = y at *
  have HK := hid (h.keep ((Below.refl _ _).alloc (Nat.le_refl _) (.cells #[.int .i64 1, .int .i64 n] 84)))
  clear h
  go_enter Try.func32, Try.ntmps32
  go_wp2_with fail
  refine (HP.out _ HK.out).mono ?_
  rintro e u1 ⟨⟨v, rfl⟩, A, ca, B, cb, D, cd, hx⟩
  have HX := hid hx
  clear hx
  go_wp2
  refine bodyPost_ret (results_none rfl _ _ _) rfl ?_
  exact ⟨⟨_, rfl⟩, a, putS b, w ++ putL 8 0 b, A, ca, B, cb, D, cd, by rw [← HV.out]; exact HX.out, HI.out⟩

set_option maxRecDepth 20000 in
set_option maxHeartbeats 8000000 in
theorem does2_any {N M : Nat} {a b : Sd} {w : List Pk} (hI : InvS N M a b w) (hN : N ≤ 1000) (hM : M ≤ 10000) (n : Int) (g : Nat) (W u : World) (A : Option Addr) (ca : Nat) (B : Option Addr) (cb : Nat) (D : Option Addr) (cd : Nat) (h : PX W u g (mkP a b w) A ca B cb D cd) :
    Calls Try.prog 32 #[.pointer (some ⟨g, 0, none⟩), .agg #[.int .i64 2, .int .i64 n]] u (DoR (N) (M + 1) W g) := by
  have hq := hI.ab.h4
  have hq2 := hI.ab.h1
  have hq3 := hI.ab.h3
  have hr := hI.ba.h4
  have hr2 := hI.ba.h1
  have hr3 := hI.ba.h3
  have hna := hI.na
  have hnb := hI.nb
  have hwl := hI.wl
  have HP := hid (fun u h => ticks0_any (mkP a b w) g W u A ca B cb D cd h (by show (namesT a.q a.n).length ≤ 1000; rw [namesT_len]; omega) (by show w.length ≤ 100000; omega))
  have HV := hid (ticks0_mk a b w)
  have HI := hid (inv_tick0 hI)
  generalize mkP a b w = x at *
  clear hq hq2 hq3 hr hr2 hr3 hna hnb hwl hI
  generalize ticksV x 0 = y at *
  have HK := hid (h.keep ((Below.refl _ _).alloc (Nat.le_refl _) (.cells #[.int .i64 2, .int .i64 n] 84)))
  clear h
  go_enter Try.func32, Try.ntmps32
  go_wp2_with fail
  refine (HP.out _ HK.out).mono ?_
  rintro e u1 ⟨⟨v, rfl⟩, A, ca, B, cb, D, cd, hx⟩
  have HX := hid hx
  clear hx
  go_wp2
  refine bodyPost_ret (results_none rfl _ _ _) rfl ?_
  exact ⟨⟨_, rfl⟩, tikS a, b, w ++ tikL 0 8 a, A, ca, B, cb, D, cd, by rw [← HV.out]; exact HX.out, HI.out⟩

set_option maxRecDepth 20000 in
set_option maxHeartbeats 8000000 in
theorem does3_any {N M : Nat} {a b : Sd} {w : List Pk} (hI : InvS N M a b w) (hN : N ≤ 1000) (hM : M ≤ 10000) (n : Int) (g : Nat) (W u : World) (A : Option Addr) (ca : Nat) (B : Option Addr) (cb : Nat) (D : Option Addr) (cd : Nat) (h : PX W u g (mkP a b w) A ca B cb D cd) :
    Calls Try.prog 32 #[.pointer (some ⟨g, 0, none⟩), .agg #[.int .i64 3, .int .i64 n]] u (DoR (N) (M + 1) W g) := by
  have hq := hI.ab.h4
  have hq2 := hI.ab.h1
  have hq3 := hI.ab.h3
  have hr := hI.ba.h4
  have hr2 := hI.ba.h1
  have hr3 := hI.ba.h3
  have hna := hI.na
  have hnb := hI.nb
  have hwl := hI.wl
  have HP := hid (fun u h => ticks1_any (mkP a b w) g W u A ca B cb D cd h (by show (namesT b.q b.n).length ≤ 1000; rw [namesT_len]; omega) (by show w.length ≤ 100000; omega))
  have HV := hid (ticks1_mk a b w)
  have HI := hid (inv_tick1 hI)
  generalize mkP a b w = x at *
  clear hq hq2 hq3 hr hr2 hr3 hna hnb hwl hI
  generalize ticksV x 1 = y at *
  have HK := hid (h.keep ((Below.refl _ _).alloc (Nat.le_refl _) (.cells #[.int .i64 3, .int .i64 n] 84)))
  clear h
  go_enter Try.func32, Try.ntmps32
  go_wp2_with fail
  refine (HP.out _ HK.out).mono ?_
  rintro e u1 ⟨⟨v, rfl⟩, A, ca, B, cb, D, cd, hx⟩
  have HX := hid hx
  clear hx
  go_wp2
  refine bodyPost_ret (results_none rfl _ _ _) rfl ?_
  exact ⟨⟨_, rfl⟩, a, tikS b, w ++ tikL 8 0 b, A, ca, B, cb, D, cd, by rw [← HV.out]; exact HX.out, HI.out⟩
end Go.Proofs.Ytdekemlckpbbcaa
