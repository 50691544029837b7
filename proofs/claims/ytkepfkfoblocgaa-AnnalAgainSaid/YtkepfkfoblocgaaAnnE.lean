/- annal: the law's works: contract. -/
import Derived.Test.YtkepfkfoblocgaaAnnD
namespace Go.Proofs.Ytkepfkfoblocgaa
open Go.RowKit
set_option linter.unusedVariables false
set_option linter.unusedSimpArgs false

def x19 : Rc := ⟨3, 5, 2, 0, 0, 0, []⟩
theorem chk19 : chkR x19 = true := rb_ex.1
theorem len19 : (fR x19).length = 8 := by rw [← size_fR]; exact size_ex
theorem recS_nil : recS [] = ([], 0) := recS_short [] (by decide)
theorem torn19 : recS ((fR x19).take 7) = ([], 0) := by
  have h := rec_torn [x19] 0 7 (fun x hx => by obtain rfl : x = x19 := by simpa using hx
                                               exact chk19) (by simp) (by simp [recB]) (.inr (by
    have h8 : recB [x19] = fR x19 := recB_one x19
    show 7 < (recB [x19]).length
    rw [h8, len19]
    omega))
  rw [recB_one] at h
  simpa [recB] using h
theorem app19 : anE 100 [] true false x19 = 14 ∧ anB 100 [] true 7 false x19 = (fR x19).take 7 ∧ anA 100 [] true false x19 = false := by
  have h1 : ¬ chkR x19 = false := by rw [chk19]; simp
  refine ⟨?_, ?_, ?_⟩
  · rw [anE, if_neg h1]
    show apE 100 [] (fR x19) true = 14
    rw [apE, if_neg (by rw [len19]; simp)]
    rfl
  · rw [anB, if_neg h1]
    show apL 100 [] (fR x19) true 7 = _
    rw [apL, if_neg (by rw [len19]; simp)]
    rfl
  · rw [anA, if_neg h1]
    show apA 100 [] (fR x19) true = false
    rw [apA, if_neg (by rw [len19]; simp)]

set_option maxRecDepth 20000 in
set_option maxHeartbeats 4000000 in
theorem works19_any (W : World) : Calls Try.prog 49 #[] W fun e w' => e = .returned (.bool true) ∧ Below W.heap.size W w' := by
  have HN := hid (fun w => dnew_in 100 (by decide) w)
  have HO1 := hid (fun D w (h : DiskAt w D 100 [] false 0) => aopen_any w h (by decide))
  have HF := hid (fun D w (h : DiskAt w D 100 [] false 0) => dfuse_any D 100 [] false 0 7 w h)
  have HAP := hid (fun B G D A c els w (h : AnAt w B G D 100 [] true 7 A c els false) hB hGD hn => aappend_any x19 none 0 w h ⟨Sl.nil _ _ _ _ (by unfold maxLen; omega), fun s hs => by cases hs⟩ hB hGD (by decide) (by decide) hn)
  have HO2 := hid (fun D w (h : DiskAt w D 100 ((fR x19).take 7) false 7) => aopen_any w h (by rw [List.length_take]; omega))
  simp only [recS_nil, List.take_nil, torn19, List.take_zero] at HO1 HO2
  unfold AppR at HAP
  simp only [app19.1, app19.2.1, app19.2.2] at HAP
  simp only [rcc, show x19.k = 3 from rfl, show x19.j = 5 from rfl, show x19.t = 2 from rfl, show x19.w = 0 from rfl, show x19.s = 0 from rfl, show x19.e = 0 from rfl, show x19.ns = [] from rfl, List.length_nil] at HAP
  rw [show ((100 : Nat) : Int) = 100 from rfl] at HN
  go_enter Try.func49, Try.ntmps49
  go_wp2_with fail
  refine (HN.out _).mono ?_
  rintro e w1 ⟨rfl, hd1, hb1⟩
  have HD1 := hid hd1
  have HB1 := hid hb1
  have hDl : W.heap.size < w1.heap.size := hd1.lt
  generalize hDD : W.heap.size = D at *
  have HDD := hid hDD
  clear hd1 hb1 HN hDD
  go_wp2_with fail
  refine (HO1.out D w1 HD1.out).mono ?_
  rintro e w2 ⟨A2, c2, els2, rfl, he2, ha2, ho2⟩
  obtain rfl : els2 = [] := by simpa using he2
  have hGD : w1.heap.size ≠ D := by omega
  have hG0 : D ≤ w1.heap.size := by omega
  have HA2 := hid ha2
  have HB2 := hid (HB1.out.trans (ho2.below D (Nat.le_refl _) hG0))
  have hs2 := ho2.size
  generalize w1.heap.size = G at *
  clear ha2 ho2 HB1 HD1 HO1 he2
  go_wp2_with fail
  refine (HF.out D w2 HA2.out.2.1).mono ?_
  rintro e w3 ⟨⟨v, rfl⟩, hd3, ho3⟩
  have HA3 : Hid (AnAt w3 G G D 100 [] true 7 A2 c2 [] false) := hid (HA2.out.only hd3 ho3 hGD)
  have HB3 := hid (HB2.out.trans (ho3.below D (Nat.le_refl _) (by omega)))
  have hs3 := ho3.size
  clear hd3 ho3 HA2 HB2 HF
  go_wp2_with fail
  refine (HAP.out G G D A2 c2 [] w3 HA3.out (by omega) hGD (by simp)).mono ?_
  rintro e w4 ⟨rfl, A4, c4, els4, hm4, ha4, ht4, _⟩
  have ha4' : AnAt w4 G G D 100 ((fR x19).take 7) false 7 A4 c4 els4 true := by simpa using ha4
  have HA4 := hid ha4'
  have HB4 := hid (HB3.out.trans (ht4.below D (fun g hg _ => by
    rcases hg with h1 | h1 | h1
    · omega
    · omega
    · have := (own_lt HA3.out.2.2.1 g h1).1
      omega) (by omega)))
  have hs4 := ht4.size
  clear ha4 ha4' ht4 hm4 HA3 HB3 HAP
  go_wp2_with fail
  refine (HO2.out D w4 HA4.out.2.1).mono ?_
  rintro e w5 ⟨A5, c5, els5, rfl, he5, ha5, ho5⟩
  obtain rfl : els5 = [] := by simpa using he5
  have HA5 := hid (HA4.out.only ha5.2.1 ho5 hGD)
  have HC5 := hid ha5
  have HB5 := hid (HB4.out.trans (ho5.below D (Nat.le_refl _) (by omega)))
  generalize w4.heap.size = G2 at *
  clear ha5 ho5 HA4 HB4 HO2 he5
  go_wp2_with fail
  refine (adown_any w5 HA5.out).mono ?_
  rintro e w6 ⟨rfl, rfl⟩
  go_wp2_with fail
  refine (adown_any w5 HC5.out).mono ?_
  rintro e w6 ⟨rfl, rfl⟩
  go_wp2_with fail
  refine (alen_any w5 HC5.out).mono ?_
  rintro e w6 ⟨rfl, rfl⟩
  go_wp2_with fail
  refine (dsize_any D 100 [] false 7 w5 HC5.out.2.1).mono ?_
  rintro e w6 ⟨rfl, rfl⟩
  go_wp2
  go_ret
  rw [HDD.out]
  exact ⟨rfl, HB5.out⟩
end Go.Proofs.Ytkepfkfoblocgaa
