/- Some of a nil tape. -/
import Derived.Test.YtadjmgmdnekllaaDrawJ
namespace Go.Proofs.Ytadjmgmdnekllaa
open Go.RowKit
set_option linter.unusedVariables false
set_option linter.unusedSimpArgs false

structure Sm0 (W w : World) (R m : Nat) (e0 : List Int) (k : Nat) (v : Value) (s : Nat) (acc : List Int) : Prop where
  r : w.heap[R]? = some (.cells #[.int .u64 (s : Int)] 165 (0, 0))
  hs : s < 18446744073709551616
  pk : PkAt m [] e0 k [] (elems s) acc
  o : w.ownsRow W.heap.size 3 1 v k (icells .i64 acc)
  b : Below W.heap.size W w
  hW : W.heap.size ≤ R
theorem Sm0.len {W w : World} {R m : Nat} {e0 : List Int} {k : Nat} {v : Value} {s : Nat} {acc : List Int} (h : Sm0 W w R m e0 k v s acc) : (elems s).length + k = e0.length := by
  have := h.pk
  unfold PkAt at this
  exact this.2.2.2

set_option maxRecDepth 20000 in
set_option maxHeartbeats 1000000 in
theorem some0 (s : Nat) (k : Int) (W : World) (hs : s < 18446744073709551616) (hk : k ≤ 9223372036854775807) :
    Calls Try.prog 40 #[.pointer none, .int .u64 (s : Int), .int .i64 k] W fun e w' => ∃ v, e = .returned v ∧ w'.ownsRow W.heap.size 3 1 v (pk k.toNat [] (elems s)).1.length (icells .i64 (pk k.toNat [] (elems s)).1) ∧ Below W.heap.size W w' := by
  have HC := hid (fun w => count_any s w hs)
  have hn64 : (elems s).length ≤ 64 := by rw [elems_def]; exact elemsU_len s 64
  obtain ⟨n, hn⟩ : ∃ n, (elems s).length = n := ⟨_, rfl⟩
  rw [hn] at HC hn64
  have HNN := hid hn
  have HS := hid hs
  clear hn hs
  have hn2 : (n : Int) ≤ 64 := by omega
  go_enter Try.func40, Try.ntmps40
  go_wp2_with (go_at_call 30; refine (HC.out _).mono ?_; rintro e w' ⟨rfl, rfl⟩)
  generalize hq : min (n : Int) k = q
  have HQ := hid hq
  have hq2 : q ≤ 64 := by omega
  clear hq HC
  obtain ⟨m, hm⟩ : ∃ m : Nat, k.toNat = m := ⟨_, rfl⟩
  have HMM := hid hm
  clear hm
  go_loopw [9, 20] (fun v i wr => ∃ (j : Nat) (s' : Nat) (acc : List Int), j ≤ 64 ∧ i = .int .i64 (j : Int) ∧ Hid (Sm0 W wr W.heap.size m (elems s) j v s' acc)) (fun _ i _ => 64 - (intOf i).toNat)
  case atStart =>
    exact ⟨0, s, [], by omega, rfl, ⟨heap_alloc_new _ _, HS.out, PkAt.start _ _ _, World.ownsRow_nil _ _ _ _, (Below.refl _ _).alloc (Nat.le_refl _) _, Nat.le_refl _⟩⟩
  case round =>
    obtain ⟨j, s', acc, hj, rfl, HM⟩ := hrel
    have hlen := HM.out.len
    rw [HNN.out] at hlen
    by_cases hlt : (j : Int) < q
    · obtain ⟨d, hd⟩ : ∃ d : Nat, d = n - j := ⟨_, rfl⟩
      have hjn : (j : Int) < (n : Int) := by have := HQ.out; omega
      have hd2 : ((n : Int) - (j : Int)) = (d : Int) := by omega
      have hed : (elems s').length = d := by omega
      have hd0 : d ≠ 0 := by omega
      have HB := hid (below0 (d : Int) wr (by omega))
      have hi := idx_lt [] (elems s') (by omega)
      have HX := hid (nthS_at s' _ hi)
      have HE := hid (elems_without s' _ HM.out.hs hi)
      have HP := hid (HM.out.pk.next (by have := HQ.out; have := HMM.out; omega) (by omega))
      rw [hed] at HX HE HP
      generalize hii : ([] : List Nat).headD 0 % d = ii at HX HE HP
      have HII := hid hii
      have hil : ii < d := by rw [← hii]; exact Nat.mod_lt _ (by omega)
      have hii0 : ii = 0 := by rw [← hii]; simp
      subst hii0
      clear hi hii hd hed hd0
      rw [← HX.out.1] at HP
      generalize hxx : nthS s' ((0 : Nat) : Int) = xx at HX HE HP
      have HXX := hid hxx
      clear hxx
      have hj64 : j < 64 := by omega
      go_wp2_with fail
      refine HB.out.mono ?_
      rintro e w1 ⟨rfl, rfl⟩
      have HTK := hid (take_any W.heap.size s' ((0 : Nat) : Int) wr HM.out.r HM.out.hs (by omega))
      rw [HXX.out] at HTK
      clear HB
      go_wp2_with fail
      refine HTK.out.mono ?_
      rintro e w2 ⟨rfl, hR2, hO2⟩
      have HO2 := hid (own_only HM.out.o hO2 HM.out.r (by decide))
      have HR2 := hid hR2
      have HOn2 := hid (HM.out.b.trans (hO2.below W.heap.size HM.out.hW HM.out.b.size))
      have hsz2 : W.heap.size ≤ w2.heap.size := HOn2.out.size
      clear hR2 hO2 HTK
      go_wp2_with (at_builtin; refine wpList_append_1k (W := w2) rfl (.tmp 23) (.tmp 31) 23 rfl W.heap.size 3 Try.underlying23 info_int rfl (by omega) rfl HO2.out rfl rfl (by simp; rfl) ?c1 ?c2 hsz2 (Below.refl _ _) ?_)
      case c1 => unfold maxLen; omega
      case c2 => omega
      · intro v' w' h2 h3 h4 h5
        have HSM : Hid (Sm0 W w' W.heap.size m (elems s) (j + 1) v' (lessS s' xx) (acc ++ [xx])) := hid (by
          refine ⟨?_, lessS_lt _ _ HM.out.hs, ?_, by rw [icells_append]; exact h2, HOn2.out.trans h3, HM.out.hW⟩
          · rw [h5 W.heap.size (Nat.le_refl _) (lt_of_block HR2.out) (own_blk_ne HO2.out HR2.out (by decide))]
            exact HR2.out
          · rw [HE.out]
            exact HP.out)
        clear h2 h3 h4 h5
        go_wp2
        go_roundw
        case rel => exact ⟨j + 1, lessS s' xx, acc ++ [xx], by omega, by go_num, HSM.out⟩
        case measure => simp [intOf]; omega
    · have HST := hid (HM.out.pk.stop (by have := HQ.out; have := HMM.out; omega))
      obtain ⟨A9, c9, rfl, _⟩ := Sl.of_own HM.out.o
      go_wp2
      go_ret
      obtain rfl := HMM.out
      rw [HST.out]
      have hal : acc.length = j := by have := HM.out.pk; unfold PkAt at this; exact this.2.2.1
      rw [hal]
      exact ⟨_, rfl, HM.out.o, HM.out.b⟩
end Go.Proofs.Ytadjmgmdnekllaa
