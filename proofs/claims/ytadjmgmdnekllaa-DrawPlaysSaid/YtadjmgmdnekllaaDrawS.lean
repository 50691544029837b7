/- Some, as a contract. -/
import Derived.Test.YtadjmgmdnekllaaDrawT
import Derived.Test.YtadjmgmdnekllaaIcell
import Derived.Test.YtadjmgmdnekllaaPopC
import Derived.Test.YtadjmgmdnekllaaKeep
import Derived.Lib.MinMax
namespace Go.Proofs.Ytadjmgmdnekllaa
open Go.RowKit
set_option linter.unusedVariables false
set_option linter.unusedSimpArgs false

set_option maxRecDepth 20000 in
theorem take_any (R s : Nat) (k : Int) (W : World) (h : W.heap[R]? = some (.cells #[.int .u64 (s : Int)] 165 (0, 0))) (hs : s < 18446744073709551616) (hk : -9223372036854775808 ≤ k ∧ k ≤ 9223372036854775807) :
    Calls Try.prog 114 #[.pointer (some ⟨R, 0, none⟩), .int .i64 k] W fun e w' => e = .returned (.int .i64 (nthS s k)) ∧ w'.heap[R]? = some (.cells #[.int .u64 (lessS s (nthS s k) : Nat)] 165 (0, 0)) ∧ Only R W w' := by
  have HN := hid (fun w => nth_any s hs k hk w)
  have HL := hid (fun x w => less_any s x w hs)
  have H := hid h
  have hc := cell_of_row W R 0 _ _ _ h
  have hf := frozen_of_row W R 0 _ _ h
  simp at hc
  clear h hs hk
  generalize nthS s k = x at *
  go_enter Try.func114, Try.ntmps114
  go_wp2_with fail
  refine (HN.out _).mono ?_
  rintro e w1 ⟨rfl, hb1⟩
  have h1 := keep0 H.out hb1
  have hc1 := cell_of_row w1 R 0 _ _ _ h1
  have hf1 := frozen_of_row w1 R 0 _ _ h1
  simp at hc1
  have H1 := hid h1
  have HB1 := hid hb1
  clear h1 hb1 HN H hc hf
  go_wp2_with (go_at_call 20; refine (HL.out _ _).mono ?_; rintro e w' ⟨rfl, rfl⟩)
  go_ret
  exact ⟨rfl, by simpa using heap_setCell_same w1 R 0 _ _ (.int .u64 (lessS s x : Nat)) H1.out, (Only.of_below HB1.out).set 0 _⟩

theorem TapeAt.low {w w' : World} {T N B : Nat} {l : List Nat} (h : TapeAt w T N l) (hb : Below B w w') (hT : T < B) (hN : N ≤ B) : TapeAt w' T N l := by
  obtain ⟨A, c, h1, h2, h3⟩ := h
  refine ⟨A, c, (hb.block T hT).trans h1, ⟨h2.1, h2.2.1, h2.2.2.1, fun h0 => ?_⟩, h3⟩
  obtain ⟨b, off, ha, hc⟩ := h2.2.2.2 h0
  obtain ⟨b', off', ha', hbN⟩ := h3 (by rw [← ucells_length]; exact h0)
  rw [ha] at ha'
  cases ha'
  refine ⟨b, off, ha, fun i hi => ?_⟩
  rw [World.cell?_of_block (hb.block b (by omega)), hc i hi]
/-- What Some holds at its loop's head. -/
structure SmAt (W w : World) (T R N m : Nat) (l0 : List Nat) (e0 : List Int) (k : Nat) (v : Value) (l : List Nat) (s : Nat) (acc : List Int) : Prop where
  t : TapeAt w T N l
  r : w.heap[R]? = some (.cells #[.int .u64 (s : Int)] 165 (0, 0))
  hs : s < 18446744073709551616
  pk : PkAt m l0 e0 k l (elems s) acc
  o : w.ownsRow W.heap.size 3 1 v k (icells .i64 acc)
  lu : ∀ x ∈ l, x < 18446744073709551616
  ll : l.length ≤ 1000
  only : Only T W w
  tr : T ≠ R
  hR : N ≤ R
  hW : W.heap.size ≤ R
  hT : T < W.heap.size
theorem SmAt.len {W w : World} {T R N m : Nat} {l0 : List Nat} {e0 : List Int} {k : Nat} {v : Value} {l : List Nat} {s : Nat} {acc : List Int} (h : SmAt W w T R N m l0 e0 k v l s acc) : (elems s).length + k = e0.length := by
  have := h.pk
  unfold PkAt at this
  exact this.2.2.2
/-- Rows of ints stay where a block of another type is stored into. -/
theorem own_only {w w' : World} {base e s n R t : Nat} {v : Value} {xs : List Value} {cs : Array Value} (h : w.ownsRow base e s v n xs) (ho : Only R w w') (hR : w.heap[R]? = some (.cells cs t (0, 0))) (hne : e ≠ t) : w'.ownsRow base e s v n xs := by
  refine ⟨h.1, ?_⟩
  rcases h.2 with h2 | ⟨g, cap, cur, h3, h4, h5, h6⟩
  · exact .inl h2
  · refine .inr ⟨g, cap, cur, h3, h4, ?_, h6⟩
    refine ho.block h5 ?_
    rintro rfl
    rw [h5] at hR
    injection hR with hR
    injection hR with _ ht
    exact hne ht

set_option maxRecDepth 20000 in
set_option maxHeartbeats 1000000 in
theorem some_any (T N : Nat) (l : List Nat) (s : Nat) (k : Int) (W : World) (h : TapeAt W T N l) (hNW : N ≤ W.heap.size) (hl : l.length ≤ 1000) (hu : ∀ x ∈ l, x < 18446744073709551616) (hs : s < 18446744073709551616) (hk : k ≤ 9223372036854775807) :
    Calls Try.prog 40 #[.pointer (some ⟨T, 0, none⟩), .int .u64 (s : Int), .int .i64 k] W fun e w' => ∃ v, e = .returned v ∧ w'.ownsRow W.heap.size 3 1 v (pk k.toNat l (elems s)).1.length (icells .i64 (pk k.toNat l (elems s)).1) ∧ TapeAt w' T N (pk k.toNat l (elems s)).2 ∧ Only T W w' := by
  have HC := hid (fun w => count_any s w hs)
  have hn64 : (elems s).length ≤ 64 := by rw [elems_def]; exact elemsU_len s 64
  obtain ⟨n, hn⟩ : ∃ n, (elems s).length = n := ⟨_, rfl⟩
  rw [hn] at HC hn64
  have HNN := hid hn
  have HT := hid h
  have HL := hid hl
  have HU := hid hu
  have HS := hid hs
  have HW := hid hNW
  have hTW := h.lt
  have HTW := hid hTW
  clear hn h hl hu hs hNW hTW
  have hn2 : (n : Int) ≤ 64 := by omega
  go_enter Try.func40, Try.ntmps40
  go_wp2_with (go_at_call 30; refine (HC.out _).mono ?_; rintro e w' ⟨rfl, rfl⟩)
  generalize hq : min (n : Int) k = q
  have HQ := hid hq
  have hq2 : q ≤ 64 := by omega
  clear hq HC
  obtain ⟨m, hm⟩ : ∃ m : Nat, k.toNat = m := ⟨_, rfl⟩
  have HMM := hid hm
  clear hm
  go_loopw [9, 20] (fun v i wr => ∃ (j : Nat) (l' : List Nat) (s' : Nat) (acc : List Int), j ≤ 64 ∧ i = .int .i64 (j : Int) ∧ Hid (SmAt W wr T W.heap.size N m l (elems s) j v l' s' acc)) (fun _ i _ => 64 - (intOf i).toNat)
  case atStart =>
    refine ⟨0, l, s, [], by omega, rfl, ⟨?_, heap_alloc_new _ _, HS.out, PkAt.start _ _ _, World.ownsRow_nil _ _ _ _, HU.out, HL.out, Only.of_below ((Below.refl _ _).alloc (Nat.le_refl _) _), ?_, HW.out, Nat.le_refl _, HTW.out⟩⟩
    · exact HT.out.below ((Below.refl _ _).alloc (Nat.le_refl _) _)
    · have := HTW.out; omega
  case round =>
    obtain ⟨j, l', s', acc, hj, rfl, HM⟩ := hrel
    have hlen := HM.out.len
    rw [HNN.out] at hlen
    by_cases hlt : (j : Int) < q
    · obtain ⟨d, hd⟩ : ∃ d : Nat, d = n - j := ⟨_, rfl⟩
      have hjn : (j : Int) < (n : Int) := by have := HQ.out; omega
      have hd2 : ((n : Int) - (j : Int)) = (d : Int) := by omega
      have hed : (elems s').length = d := by omega
      have hd0 : d ≠ 0 := by omega
      have HB := hid (tbelow_any T N l' (d : Int) wr HM.out.t (by have := HM.out.ll; omega) HM.out.lu (by omega))
      have hnl : ¬ (d : Int) < 1 := by omega
      rw [if_neg hnl, blw, if_neg hnl, Int.toNat_natCast] at HB
      have hi := idx_lt l' (elems s') (by omega)
      have HX := hid (nthS_at s' _ hi)
      have HE := hid (elems_without s' _ HM.out.hs hi)
      have HP := hid (HM.out.pk.next (by have := HQ.out; have := HMM.out; omega) (by omega))
      rw [hed] at HX HE HP
      generalize hii : l'.headD 0 % d = ii at HB HX HE HP
      have HII := hid hii
      have hil : ii < d := by rw [← hii]; exact Nat.mod_lt _ (by omega)
      clear hi hii hnl hd hed hd0
      rw [← HX.out.1] at HP
      generalize hxx : nthS s' (ii : Int) = xx at HX HE HP
      have HXX := hid hxx
      clear hxx
      have hj64 : j < 64 := by omega
      go_wp2_with fail
      refine HB.out.mono ?_
      rintro e w1 ⟨rfl, hT1, hO1⟩
      have h1 := hO1.block HM.out.r (fun e => HM.out.tr e.symm)
      have HTK := hid (take_any W.heap.size s' (ii : Int) w1 h1 HM.out.hs (by omega))
      rw [HXX.out] at HTK
      obtain ⟨A8, c8, hT8, _⟩ := HM.out.t
      have HO1 := hid (own_only HM.out.o hO1 hT8 (by decide))
      clear hT8
      have HT1 := hid hT1
      have HOn1 := hid (HM.out.only.trans hO1)
      have HR1 := hid h1
      clear h1 hT1 hO1 HB
      go_wp2_with fail
      refine HTK.out.mono ?_
      rintro e w2 ⟨rfl, hR2, hO2⟩
      have HT2 := hid (HT1.out.only hO2 HM.out.hR HM.out.tr)
      have HO2 := hid (own_only HO1.out hO2 HR1.out (by decide))
      have HR2 := hid hR2
      have HOn2 := hid (HOn1.out.grow (hO2.below W.heap.size HM.out.hW HOn1.out.size))
      have hsz2 : W.heap.size ≤ w2.heap.size := HOn2.out.size
      clear hR2 hO2 HTK HO1 HT1 HR1 HOn1
      go_wp2_with (at_builtin; refine wpList_append_1k (W := w2) rfl (.tmp 23) (.tmp 31) 23 rfl W.heap.size 3 Try.underlying23 info_int rfl (by omega) rfl HO2.out rfl rfl (by simp; rfl) ?c1 ?c2 hsz2 (Below.refl _ _) ?_)
      case c1 => unfold maxLen; omega
      case c2 => omega
      · intro v' w' h2 h3 h4 h5
        have HSM : Hid (SmAt W w' T W.heap.size N m l (elems s) (j + 1) v' l'.tail (lessS s' xx) (acc ++ [xx])) := hid (by
          refine ⟨HT2.out.low h3 HM.out.hT HW.out, ?_, lessS_lt _ _ HM.out.hs, ?_, by rw [icells_append]; exact h2, fun x hx => HM.out.lu x (List.mem_of_mem_tail hx), ?_, HOn2.out.grow h3, HM.out.tr, HM.out.hR, HM.out.hW, HM.out.hT⟩
          · rw [h5 W.heap.size (Nat.le_refl _) (lt_of_block HR2.out) (own_blk_ne HO2.out HR2.out (by decide))]
            exact HR2.out
          · rw [HE.out]
            exact HP.out
          · have := HM.out.ll
            rw [List.length_tail]; omega)
        clear h2 h3 h4 h5
        go_wp2
        go_roundw
        case rel => exact ⟨j + 1, l'.tail, lessS s' xx, acc ++ [xx], by omega, by go_num, HSM.out⟩
        case measure => simp [intOf]; omega
    · have HST := hid (HM.out.pk.stop (by have := HQ.out; have := HMM.out; omega))
      obtain ⟨A9, c9, rfl, _⟩ := Sl.of_own HM.out.o
      go_wp2
      go_ret
      obtain rfl := HMM.out
      rw [HST.out]
      have hal : acc.length = j := by have := HM.out.pk; unfold PkAt at this; exact this.2.2.1
      rw [hal]
      exact ⟨_, rfl, HM.out.o, HM.out.t, HM.out.only⟩
end Go.Proofs.Ytadjmgmdnekllaa
