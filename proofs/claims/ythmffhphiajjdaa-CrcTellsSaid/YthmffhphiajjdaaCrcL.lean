/- The laws on the checksum package, as walks. -/
import Derived.Test.YthmffhphiajjdaaCrcV
namespace Go.Proofs.Ythmffhphiajjdaa
open Go.RowKit Go.Sort

theorem of_b (a : Option Addr) (len cap : Nat) (l : List UInt8) (w : World) (hb : IsBytes w a len cap l) : ∀ W, Below w.heap.size w W →
    Calls Try.prog 31 #[.slice a len cap] W fun e w' => e = .returned (.int .u32 (moreN 0 l)) ∧ Below W.heap.size W w' := fun W hW => same_below (of_any a len cap l W (hb.below hW))
theorem rof_b (s : ByteArray) (l : List UInt8) (w : World) (hs : s.size ≤ maxLen) (hl : s.data.toList = l) : ∀ W, Below w.heap.size w W →
    Calls Try.prog 32 #[.string s] W fun e w' => e = .returned (.int .u32 (moreN 0 l)) ∧ Below W.heap.size W w' := fun W _ => same_below (by subst hl; exact rof_any s W hs)
theorem more_b (x : Nat) (m : List UInt8) (a : Option Addr) (len cap : Nat) (l : List UInt8) (w : World) (hx : x = moreN 0 m) (hb : IsBytes w a len cap l) : ∀ W, Below w.heap.size w W →
    Calls Try.prog 33 #[.int .u32 x, .slice a len cap] W fun e w' => e = .returned (.int .u32 (moreN 0 (m ++ l))) ∧ Below W.heap.size W w' := fun W hW =>
  same_below (by subst hx; rw [← moreN_append 0 m l (by omega)]; exact more_any _ a len cap l W (moreN_lt _ _) (hb.below hW))
theorem works_b (w : World) : ∀ W, Below w.heap.size w W → Calls Try.prog 30 #[] W fun e w' => e = .returned (.bool true) ∧ Below W.heap.size W w' := fun W _ => works2_any W
theorem str_b {a : Option Addr} {len cap : Nat} {l : List UInt8} {w : World} (hb : IsBytes w a len cap l) : ∀ d os, (convert 22 9 (.slice a len cap)).run Try.prog (grow (redrawn w d) os) = .ok (.string ⟨l.toArray⟩) (grow (redrawn w d) os) :=
  fun d os => conv_str Try.underlying22 Try.underlying5 Try.underlying9 (hb.below (below_regrown w d os))

theorem works_run {f : FuncId} {args : Array Value} {W : World} (h : Calls Try.prog f args W fun e w' => e = .returned (.bool true) ∧ Below W.heap.size W w') : Calls Try.prog f args W fun e w' => e = .returned (.bool true) ∧ Below W.heap.size W w' := h

set_option maxHeartbeats 400000 in
theorem crcTells_any (a0 a1 : Option Addr) (len0 cap0 len1 cap1 : Nat) (l0 l1 : List UInt8) (w : World) (h0 : IsBytes w a0 len0 cap0 l0) (h1 : IsBytes w a1 len1 cap1 l1) :
    Calls Try.prog 6 #[.slice a0 len0 cap0, .slice a1 len1 cap1] w fun e w' => e = .returned (.bool true) ∧ Below w.heap.size w w' := by
  obtain ⟨rfl, _, hm0⟩ := h0.len
  obtain ⟨rfl, _, hm1⟩ := h1.len
  unfold maxLen at hm0 hm1
  by_cases g0 : l0.length ≤ 1000
  · by_cases g1 : l1.length ≤ 1000
    · have c1 := reg (of_b a0 l0.length cap0 l0 w h0)
      have c2 := reg (rof_b ⟨l0.toArray⟩ l0 w (by rw [bsize]; unfold maxLen; omega) rfl)
      have c3 := reg (more_b (moreN 0 l0) l0 a1 l1.length cap1 l1 w rfl h1)
      have c4 := reg (rof_b (⟨l0.toArray⟩ ++ ⟨l1.toArray⟩) (l0 ++ l1) w (by rw [bsize_app]; unfold maxLen; omega) (by simp))
      have c5 := reg (works_b w)
      have s0 := str_b h0
      have s1 := str_b h1
      have n1 : ¬ 9223372036854775807 < l0.length + l1.length := by omega
      have z0 : (l0.length : Int) ≤ 1000 := by omega
      have z1 : (l1.length : Int) ≤ 1000 := by omega
      clear h0 h1 g0 g1 hm0 hm1
      go_enter Try.func6, Try.ntmps6
      go_wp2
      refine wp_region_quiet_below (by kernel_rfl) (by kernel_rfl) ?_
      repeat (go_big_quiet_step (first | (go_at_call 31; with_reducible exact c1 _ _) | (go_at_call 32; first | with_reducible exact c2 _ _ | with_reducible exact c4 _ _) | (go_at_call 33; with_reducible exact c3 _ _) | (go_at_call 30; with_reducible exact c5 _ _)))
      refine wpQuiet_nil ?_
      intro _ hw'
      obtain ⟨⟨dq, osq⟩, hw''⟩ := hw'
      subst hw''
      go_wp2
      go_ret
      exact ⟨rfl, below_regrown w dq osq⟩
    · have z0 : (l0.length : Int) ≤ 1000 := by omega
      have z1 : (1000 : Int) < l1.length := by omega
      go_enter Try.func6, Try.ntmps6
      go_wp2_with (go_at_call 30; refine (works2_any _).mono ?_; rintro e w' ⟨rfl, hb⟩)
      go_ret
      exact ⟨rfl, hb⟩
  · have z0 : (1000 : Int) < l0.length := by omega
    go_enter Try.func6, Try.ntmps6
    go_wp2_with (go_at_call 30; refine (works2_any _).mono ?_; rintro e w' ⟨rfl, hb⟩)
    go_ret
    exact ⟨rfl, hb⟩
end Go.Proofs.Ythmffhphiajjdaa
