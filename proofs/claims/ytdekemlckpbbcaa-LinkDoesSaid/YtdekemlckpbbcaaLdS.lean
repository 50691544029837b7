/- The document's end: Take: contract. -/
import Derived.Test.YtdekemlckpbbcaaLdR
namespace Go.Proofs.Ytdekemlckpbbcaa
open Go.RowKit Go.Sort
set_option linter.unusedVariables false
set_option linter.unusedSimpArgs false
theorem clsD_four (e : Ev) (x : Pk) : clsD e x = 0 ∨ clsD e x = 1 ∨ clsD e x = 2 ∨ clsD e x = 3 := by
  unfold clsD gC
  repeat' split
  all_goals simp
theorem r26take_any (f t i p q : Int) (l : List (List UInt8)) (wt fl gm gp gl : Int) (kd xf xt xi xp xs : Int) (xb : List UInt8) (A : Option Addr) (c : Nat) (W : World) (h : Sl W 1 A l.length c (scells l)) (hle : l.length ≤ 1000) (hnel : ∀ t ∈ l, t ≠ []) (hgl : 0 ≤ gl ∧ gl ≤ 9223372036854775807) (hxs : -9223372036854775808 ≤ xs ∧ xs ≤ 9223372036854775807) (hq : q < 9223372036854775807) (hq0 : -9223372036854775808 ≤ q) :
    Calls Try.prog 28 #[.agg #[.int .i64 f, .int .i64 t, .int .i64 i, .int .i64 p, .int .i64 q, .slice A l.length c, .int .i64 wt, .int .i64 fl, .int .i64 gm, .int .i64 gp, .int .i64 gl], .agg #[.int .i64 kd, .int .i64 xf, .int .i64 xt, .int .i64 xi, .int .i64 xp, .int .i64 xs, .string (str xb)]] W (RTook (takV ⟨f, t, i, ⟨p, q, l, wt, fl⟩, gm, gp, gl⟩ ⟨kd, xf, xt, xi, xp, xs, xb⟩).1 (takV ⟨f, t, i, ⟨p, q, l, wt, fl⟩, gm, gp, gl⟩ ⟨kd, xf, xt, xi, xp, xs, xb⟩).2.1 (takV ⟨f, t, i, ⟨p, q, l, wt, fl⟩, gm, gp, gl⟩ ⟨kd, xf, xt, xi, xp, xs, xb⟩).2.2 W) := by
  by_cases hk : okP kd xf xt xi xp xs xb = true
  · by_cases h1 : xf = t
    · by_cases h2 : xt = f
      · by_cases h3 : xi < gp
        · have hv : takV ⟨f, t, i, ⟨p, q, l, wt, fl⟩, gm, gp, gl⟩ ⟨kd, xf, xt, xi, xp, xs, xb⟩ = ((⟨f, t, i, ⟨p, q, l, wt, fl⟩, gm, gp, gl⟩, []), ⟨#[]⟩, false) := by unfold takV; rw [if_pos (show badT ⟨f, t, i, ⟨p, q, l, wt, fl⟩, gm, gp, gl⟩ ⟨kd, xf, xt, xi, xp, xs, xb⟩ from Or.inr (Or.inr (Or.inr h3)))]
          rw [hv]
          exact r26take_bad3 f t i p q l wt fl gm gp gl kd xf xt xi xp xs xb A c W h hk h1 h2 h3
        · have hbd : ¬ badT ⟨f, t, i, ⟨p, q, l, wt, fl⟩, gm, gp, gl⟩ ⟨kd, xf, xt, xi, xp, xs, xb⟩ := by
            rintro (h9 | h9 | h9 | h9)
            · exact absurd (show okP kd xf xt xi xp xs xb = false from h9) (by rw [hk]; decide)
            · exact h9 h1
            · exact h9 h2
            · exact h3 h9
          have hkk := (okP_iff hk).1
          by_cases k1 : kd = 1
          · have hv : takV ⟨f, t, i, ⟨p, q, l, wt, fl⟩, gm, gp, gl⟩ ⟨kd, xf, xt, xi, xp, xs, xb⟩ = (datE ⟨f, t, i, ⟨p, q, l, wt, fl⟩, gm, gp, gl⟩ ⟨kd, xf, xt, xi, xp, xs, xb⟩, (if clsD ⟨f, t, i, ⟨p, q, l, wt, fl⟩, gm, gp, gl⟩ ⟨kd, xf, xt, xi, xp, xs, xb⟩ = 1 then str xb else ⟨#[]⟩), decide (clsD ⟨f, t, i, ⟨p, q, l, wt, fl⟩, gm, gp, gl⟩ ⟨kd, xf, xt, xi, xp, xs, xb⟩ = 1)) := by unfold takV; rw [if_neg hbd, if_pos (show (⟨kd, xf, xt, xi, xp, xs, xb⟩ : Pk).k = 1 from k1)]
            rw [hv]
            rcases clsD_four ⟨f, t, i, ⟨p, q, l, wt, fl⟩, gm, gp, gl⟩ ⟨kd, xf, xt, xi, xp, xs, xb⟩ with hc | hc | hc | hc
            · rw [hc]; exact r26take_1c0 f t i p q l wt fl gm gp gl kd xf xt xi xp xs xb A c W h hk h1 h2 h3 k1 hle hgl hxs hc
            · rw [hc]; exact r26take_1c1 f t i p q l wt fl gm gp gl kd xf xt xi xp xs xb A c W h hk h1 h2 h3 k1 hle hgl hxs hc
            · rw [hc]; exact r26take_1c2 f t i p q l wt fl gm gp gl kd xf xt xi xp xs xb A c W h hk h1 h2 h3 k1 hle hgl hxs hc
            · rw [hc]; exact r26take_1c3 f t i p q l wt fl gm gp gl kd xf xt xi xp xs xb A c W h hk h1 h2 h3 k1 hle hgl hxs hc
          · by_cases k2 : kd = 2
            · by_cases h5 : xp = i
              · have hv : takV ⟨f, t, i, ⟨p, q, l, wt, fl⟩, gm, gp, gl⟩ ⟨kd, xf, xt, xi, xp, xs, xb⟩ = (ackE ⟨f, t, i, ⟨p, q, l, wt, fl⟩, gm, gp, gl⟩ ⟨kd, xf, xt, xi, xp, xs, xb⟩, ⟨#[]⟩, false) := by unfold takV; rw [if_neg hbd, if_neg (show ¬ (⟨kd, xf, xt, xi, xp, xs, xb⟩ : Pk).k = 1 from k1), if_pos (show (⟨kd, xf, xt, xi, xp, xs, xb⟩ : Pk).k = 2 from k2), if_pos (show (⟨kd, xf, xt, xi, xp, xs, xb⟩ : Pk).p = (⟨f, t, i, ⟨p, q, l, wt, fl⟩, gm, gp, gl⟩ : Ev).i from h5)]
                rw [hv]
                exact r26take_2y f t i p q l wt fl gm gp gl kd xf xt xi xp xs xb A c W h hk h1 h2 h3 k2 h5 hle hq hq0
              · have hv : takV ⟨f, t, i, ⟨p, q, l, wt, fl⟩, gm, gp, gl⟩ ⟨kd, xf, xt, xi, xp, xs, xb⟩ = ((⟨f, t, i, ⟨p, q, l, wt, fl⟩, gm, gp, gl⟩, []), ⟨#[]⟩, false) := by unfold takV; rw [if_neg hbd, if_neg (show ¬ (⟨kd, xf, xt, xi, xp, xs, xb⟩ : Pk).k = 1 from k1), if_pos (show (⟨kd, xf, xt, xi, xp, xs, xb⟩ : Pk).k = 2 from k2), if_neg (show ¬ (⟨kd, xf, xt, xi, xp, xs, xb⟩ : Pk).p = (⟨f, t, i, ⟨p, q, l, wt, fl⟩, gm, gp, gl⟩ : Ev).i from h5)]
                rw [hv]
                exact r26take_2n f t i p q l wt fl gm gp gl kd xf xt xi xp xs xb A c W h hk h1 h2 h3 k2 h5
            · by_cases k3 : kd = 3
              · by_cases h5 : i < xp
                · have hv : takV ⟨f, t, i, ⟨p, q, l, wt, fl⟩, gm, gp, gl⟩ ⟨kd, xf, xt, xi, xp, xs, xb⟩ = ((⟨f, t, i, ⟨p, q, l, wt, fl⟩, gm, gp, gl⟩, []), ⟨#[]⟩, false) := by unfold takV; rw [if_neg hbd, if_neg (show ¬ (⟨kd, xf, xt, xi, xp, xs, xb⟩ : Pk).k = 1 from k1), if_neg (show ¬ (⟨kd, xf, xt, xi, xp, xs, xb⟩ : Pk).k = 2 from k2), if_pos (show (⟨kd, xf, xt, xi, xp, xs, xb⟩ : Pk).k = 3 from k3), if_neg (show ¬ (⟨kd, xf, xt, xi, xp, xs, xb⟩ : Pk).p ≤ (⟨f, t, i, ⟨p, q, l, wt, fl⟩, gm, gp, gl⟩ : Ev).i from by show ¬ xp ≤ i; omega)]
                  rw [hv]
                  exact r26take_3n f t i p q l wt fl gm gp gl kd xf xt xi xp xs xb A c W h hk h1 h2 h3 k3 h5
                · have hv : takV ⟨f, t, i, ⟨p, q, l, wt, fl⟩, gm, gp, gl⟩ ⟨kd, xf, xt, xi, xp, xs, xb⟩ = (lrnE ⟨f, t, i, ⟨p, q, l, wt, fl⟩, gm, gp, gl⟩ xi, ⟨#[]⟩, false) := by unfold takV; rw [if_neg hbd, if_neg (show ¬ (⟨kd, xf, xt, xi, xp, xs, xb⟩ : Pk).k = 1 from k1), if_neg (show ¬ (⟨kd, xf, xt, xi, xp, xs, xb⟩ : Pk).k = 2 from k2), if_pos (show (⟨kd, xf, xt, xi, xp, xs, xb⟩ : Pk).k = 3 from k3), if_pos (show (⟨kd, xf, xt, xi, xp, xs, xb⟩ : Pk).p ≤ (⟨f, t, i, ⟨p, q, l, wt, fl⟩, gm, gp, gl⟩ : Ev).i from by show xp ≤ i; omega)]
                  rw [hv]
                  exact r26take_3y f t i p q l wt fl gm gp gl kd xf xt xi xp xs xb A c W h hk h1 h2 h3 k3 h5 hle hnel
              · have k4 : kd = 4 := by have := hkk.1; have := hkk.2; omega
                have hv : takV ⟨f, t, i, ⟨p, q, l, wt, fl⟩, gm, gp, gl⟩ ⟨kd, xf, xt, xi, xp, xs, xb⟩ = ((⟨f, t, i, ⟨p, q, l, wt, fl⟩, gm, gp, gl⟩, []), str xb, true) := by unfold takV; rw [if_neg hbd, if_neg (show ¬ (⟨kd, xf, xt, xi, xp, xs, xb⟩ : Pk).k = 1 from k1), if_neg (show ¬ (⟨kd, xf, xt, xi, xp, xs, xb⟩ : Pk).k = 2 from k2), if_neg (show ¬ (⟨kd, xf, xt, xi, xp, xs, xb⟩ : Pk).k = 3 from k3)]
                rw [hv]
                exact r26take_4 f t i p q l wt fl gm gp gl kd xf xt xi xp xs xb A c W h hk h1 h2 h3 k4
      · have hv : takV ⟨f, t, i, ⟨p, q, l, wt, fl⟩, gm, gp, gl⟩ ⟨kd, xf, xt, xi, xp, xs, xb⟩ = ((⟨f, t, i, ⟨p, q, l, wt, fl⟩, gm, gp, gl⟩, []), ⟨#[]⟩, false) := by unfold takV; rw [if_pos (show badT ⟨f, t, i, ⟨p, q, l, wt, fl⟩, gm, gp, gl⟩ ⟨kd, xf, xt, xi, xp, xs, xb⟩ from Or.inr (Or.inr (Or.inl h2)))]
        rw [hv]
        exact r26take_bad2 f t i p q l wt fl gm gp gl kd xf xt xi xp xs xb A c W h hk h1 h2
    · have hv : takV ⟨f, t, i, ⟨p, q, l, wt, fl⟩, gm, gp, gl⟩ ⟨kd, xf, xt, xi, xp, xs, xb⟩ = ((⟨f, t, i, ⟨p, q, l, wt, fl⟩, gm, gp, gl⟩, []), ⟨#[]⟩, false) := by unfold takV; rw [if_pos (show badT ⟨f, t, i, ⟨p, q, l, wt, fl⟩, gm, gp, gl⟩ ⟨kd, xf, xt, xi, xp, xs, xb⟩ from Or.inr (Or.inl h1))]
      rw [hv]
      exact r26take_bad1 f t i p q l wt fl gm gp gl kd xf xt xi xp xs xb A c W h hk h1
  · have hk' : okP kd xf xt xi xp xs xb = false := by simpa using hk
    have hv : takV ⟨f, t, i, ⟨p, q, l, wt, fl⟩, gm, gp, gl⟩ ⟨kd, xf, xt, xi, xp, xs, xb⟩ = ((⟨f, t, i, ⟨p, q, l, wt, fl⟩, gm, gp, gl⟩, []), ⟨#[]⟩, false) := by unfold takV; rw [if_pos (show badT ⟨f, t, i, ⟨p, q, l, wt, fl⟩, gm, gp, gl⟩ ⟨kd, xf, xt, xi, xp, xs, xb⟩ from Or.inl (show chkP ⟨kd, xf, xt, xi, xp, xs, xb⟩ = false from hk'))]
    rw [hv]
    exact r26take_bad0 f t i p q l wt fl gm gp gl kd xf xt xi xp xs xb A c W h hk'
end Go.Proofs.Ytdekemlckpbbcaa
