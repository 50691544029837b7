/- Tapes whose draws lie in one block: Some. -/
import Derived.Test.YtadjmgmdnekllaaDrawG
import Derived.Test.YtadjmgmdnekllaaDrawS
namespace Go.Proofs.Ytadjmgmdnekllaa
open Go.RowKit
set_option linter.unusedVariables false
set_option linter.unusedSimpArgs false

theorem TapeG.lt {w : World} {T : Nat} {G : Option Nat} {E : Nat} {l : List Nat} (h : TapeG w T G E l) : T < w.heap.size := by
  obtain ⟨_, _, h, _⟩ := h
  exact lt_of_block h
theorem TapeG.below {w w' : World} {T : Nat} {G : Option Nat} {E : Nat} {l : List Nat} (h : TapeG w T G E l) (hb : Below w.heap.size w w') : TapeG w' T G E l := by
  obtain ⟨A, c, h1, h2, h3⟩ := h
  exact ⟨A, c, keep0 h1 hb, h2.below hb, h3⟩
/-- The draws' cells, where block G is as it was. -/
theorem TapeG.sl {w w' : World} {A : Option Addr} {c E : Nat} {G : Option Nat} {l : List Nat} (h2 : Sl w 1 A l.length c (ucells l)) (h3 : InG A c G E) (hk : ∀ g, G = some g → g < w.heap.size → w'.heap[g]? = w.heap[g]?) : Sl w' 1 A l.length c (ucells l) := by
  refine ⟨h2.1, h2.2.1, h2.2.2.1, fun h0 => ?_⟩
  obtain ⟨b, off, ha, hc⟩ := h2.2.2.2 h0
  have hb : G = some b := by
    rcases h3 with ⟨h9, _⟩ | ⟨g, o, h8, h9, _⟩
    · rw [h9] at ha; cases ha
    · rw [h9] at ha; cases ha; exact h8
  refine ⟨b, off, ha, fun i hi => ?_⟩
  have h4 := hc i hi
  rw [List.getElem?_eq_getElem hi] at h4 ⊢
  rw [World.cell?_of_block (hk b hb (lt_of_cell h4))]
  exact h4
theorem TapeG.only {w w' : World} {T E R : Nat} {G : Option Nat} {l : List Nat} (h : TapeG w T G E l) (ho : Only R w w') (hR : ∀ g, G = some g → g < R) (hT : T ≠ R) : TapeG w' T G E l := by
  obtain ⟨A, c, h1, h2, h3⟩ := h
  exact ⟨A, c, ho.block h1 hT, TapeG.sl h2 h3 (fun g hg hl => ho.keep g (by have := hR g hg; omega) hl), h3⟩
theorem TapeG.low {w w' : World} {T E B : Nat} {G : Option Nat} {l : List Nat} (h : TapeG w T G E l) (hb : Below B w w') (hT : T < B) (hN : ∀ g, G = some g → g < B) : TapeG w' T G E l := by
  obtain ⟨A, c, h1, h2, h3⟩ := h
  exact ⟨A, c, (hb.block T hT).trans h1, TapeG.sl h2 h3 (fun g hg hl => hb.block g (hN g hg)), h3⟩

/-- What Some holds at its loop's head. -/
structure SmG (W w : World) (T R : Nat) (G : Option Nat) (E m : Nat) (l0 : List Nat) (e0 : List Int) (k : Nat) (v : Value) (l : List Nat) (s : Nat) (acc : List Int) : Prop where
  t : TapeG w T G E l
  r : w.heap[R]? = some (.cells #[.int .u64 (s : Int)] 165 (0, 0))
  hs : s < 18446744073709551616
  pk : PkAt m l0 e0 k l (elems s) acc
  o : w.ownsRow W.heap.size 3 1 v k (icells .i64 acc)
  lu : ∀ x ∈ l, x < 18446744073709551616
  ll : l.length ≤ 1000
  only : Only T W w
  tr : T ≠ R
  hR : ∀ g, G = some g → g < R
  hW : W.heap.size ≤ R
  hT : T < W.heap.size
theorem SmG.len {W w : World} {T R E m : Nat} {G : Option Nat} {l0 : List Nat} {e0 : List Int} {k : Nat} {v : Value} {l : List Nat} {s : Nat} {acc : List Int} (h : SmG W w T R G E m l0 e0 k v l s acc) : (elems s).length + k = e0.length := by
  have := h.pk
  unfold PkAt at this
  exact this.2.2.2
set_option maxRecDepth 20000 in
set_option maxHeartbeats 1000000 in
theorem someG (T : Nat) (G : Option Nat) (E : Nat) (l : List Nat) (s : Nat) (k : Int) (W : World) (h : TapeG W T G E l) (hNW : ∀ g, G = some g → g < W.heap.size) (hl : l.length ≤ 1000) (hu : ∀ x ∈ l, x < 18446744073709551616) (hs : s < 18446744073709551616) (hk : k ≤ 9223372036854775807) :
    Calls Try.prog 40 #[.pointer (some ⟨T, 0, none⟩), .int .u64 (s : Int), .int .i64 k] W fun e w' => ∃ v, e = .returned v ∧ w'.ownsRow W.heap.size 3 1 v (pk k.toNat l (elems s)).1.length (icells .i64 (pk k.toNat l (elems s)).1) ∧ TapeG w' T G E (pk k.toNat l (elems s)).2 ∧ Only T W w' := by
  have HC := hid (fun w => count_any s w hs)
  have hn64 : (elems s).length ≤ 64 := by rw [elems_def]; exact elemsU_len s 64
  obtain ⟨n, hn⟩ : ∃ n, (elems s).length = n := ⟨_, rfl⟩
  rw [hn] at HC hn64
  have HNN := hid hn
  have HT := hid h
  have HL := hid hl
  have HU := hid hu
  have HS := hid hs
  have HW := hid hNW
  have hTW := h.lt
  have HTW := hid hTW
  clear hn h hl hu hs hNW hTW
  have hn2 : (n : Int) ≤ 64 := by omega
  go_enter Try.func40, Try.ntmps40
  go_wp2_with (go_at_call 30; refine (HC.out _).mono ?_; rintro e w' ⟨rfl, rfl⟩)
  generalize hq : min (n : Int) k = q
  have HQ := hid hq
  have hq2 : q ≤ 64 := by omega
  clear hq HC
  obtain ⟨m, hm⟩ : ∃ m : Nat, k.toNat = m := ⟨_, rfl⟩
  have HMM := hid hm
  clear hm
  go_loopw [9, 20] (fun v i wr => ∃ (j : Nat) (l' : List Nat) (s' : Nat) (acc : List Int), j ≤ 64 ∧ i = .int .i64 (j : Int) ∧ Hid (SmG W wr T W.heap.size G E m l (elems s) j v l' s' acc)) (fun _ i _ => 64 - (intOf i).toNat)
  case atStart =>
    refine ⟨0, l, s, [], by omega, rfl, ⟨?_, heap_alloc_new _ _, HS.out, PkAt.start _ _ _, World.ownsRow_nil _ _ _ _, HU.out, HL.out, Only.of_below ((Below.refl _ _).alloc (Nat.le_refl _) _), ?_, HW.out, Nat.le_refl _, HTW.out⟩⟩
    · exact HT.out.below ((Below.refl _ _).alloc (Nat.le_refl _) _)
    · have := HTW.out; omega
  case round =>
    obtain ⟨j, l', s', acc, hj, rfl, HM⟩ := hrel
    have hlen := HM.out.len
    rw [HNN.out] at hlen
    by_cases hlt : (j : Int) < q
    · obtain ⟨d, hd⟩ : ∃ d : Nat, d = n - j := ⟨_, rfl⟩
      have hjn : (j : Int) < (n : Int) := by have := HQ.out; omega
      have hd2 : ((n : Int) - (j : Int)) = (d : Int) := by omega
      have hed : (elems s').length = d := by omega
      have hd0 : d ≠ 0 := by omega
      have HB := hid (tbelowG T G E l' (d : Int) wr HM.out.t (by have := HM.out.ll; omega) HM.out.lu (by omega))
      have hnl : ¬ (d : Int) < 1 := by omega
      rw [if_neg hnl, blw, if_neg hnl, Int.toNat_natCast] at HB
      have hi := idx_lt l' (elems s') (by omega)
      have HX := hid (nthS_at s' _ hi)
      have HE := hid (elems_without s' _ HM.out.hs hi)
      have HP := hid (HM.out.pk.next (by have := HQ.out; have := HMM.out; omega) (by omega))
      rw [hed] at HX HE HP
      generalize hii : l'.headD 0 % d = ii at HB HX HE HP
      have HII := hid hii
      have hil : ii < d := by rw [← hii]; exact Nat.mod_lt _ (by omega)
      clear hi hii hnl hd hed hd0
      rw [← HX.out.1] at HP
      generalize hxx : nthS s' (ii : Int) = xx at HX HE HP
      have HXX := hid hxx
      clear hxx
      have hj64 : j < 64 := by omega
      go_wp2_with fail
      refine HB.out.mono ?_
      rintro e w1 ⟨rfl, hT1, hO1⟩
      have h1 := hO1.block HM.out.r (fun e => HM.out.tr e.symm)
      have HTK := hid (take_any W.heap.size s' (ii : Int) w1 h1 HM.out.hs (by omega))
      rw [HXX.out] at HTK
      obtain ⟨A8, c8, hT8, _⟩ := HM.out.t
      have HO1 := hid (own_only HM.out.o hO1 hT8 (by decide))
      clear hT8
      have HT1 := hid hT1
      have HOn1 := hid (HM.out.only.trans hO1)
      have HR1 := hid h1
      clear h1 hT1 hO1 HB
      go_wp2_with fail
      refine HTK.out.mono ?_
      rintro e w2 ⟨rfl, hR2, hO2⟩
      have HT2 := hid (HT1.out.only hO2 HM.out.hR HM.out.tr)
      have HO2 := hid (own_only HO1.out hO2 HR1.out (by decide))
      have HR2 := hid hR2
      have HOn2 := hid (HOn1.out.grow (hO2.below W.heap.size HM.out.hW HOn1.out.size))
      have hsz2 : W.heap.size ≤ w2.heap.size := HOn2.out.size
      clear hR2 hO2 HTK HO1 HT1 HR1 HOn1
      go_wp2_with (at_builtin; refine wpList_append_1k (W := w2) rfl (.tmp 23) (.tmp 31) 23 rfl W.heap.size 3 Try.underlying23 info_int rfl (by omega) rfl HO2.out rfl rfl (by simp; rfl) ?c1 ?c2 hsz2 (Below.refl _ _) ?_)
      case c1 => unfold maxLen; omega
      case c2 => omega
      · intro v' w' h2 h3 h4 h5
        have HSM : Hid (SmG W w' T W.heap.size G E m l (elems s) (j + 1) v' l'.tail (lessS s' xx) (acc ++ [xx])) := hid (by
          refine ⟨HT2.out.low h3 HM.out.hT HW.out, ?_, lessS_lt _ _ HM.out.hs, ?_, by rw [icells_append]; exact h2, fun x hx => HM.out.lu x (List.mem_of_mem_tail hx), ?_, HOn2.out.grow h3, HM.out.tr, HM.out.hR, HM.out.hW, HM.out.hT⟩
          · rw [h5 W.heap.size (Nat.le_refl _) (lt_of_block HR2.out) (own_blk_ne HO2.out HR2.out (by decide))]
            exact HR2.out
          · rw [HE.out]
            exact HP.out
          · have := HM.out.ll
            rw [List.length_tail]; omega)
        clear h2 h3 h4 h5
        go_wp2
        go_roundw
        case rel => exact ⟨j + 1, l'.tail, lessS s' xx, acc ++ [xx], by omega, by go_num, HSM.out⟩
        case measure => simp [intOf]; omega
    · have HST := hid (HM.out.pk.stop (by have := HQ.out; have := HMM.out; omega))
      obtain ⟨A9, c9, rfl, _⟩ := Sl.of_own HM.out.o
      go_wp2
      go_ret
      obtain rfl := HMM.out
      rw [HST.out]
      have hal : acc.length = j := by have := HM.out.pk; unfold PkAt at this; exact this.2.2.1
      rw [hal]
      exact ⟨_, rfl, HM.out.o, HM.out.t, HM.out.only⟩
end Go.Proofs.Ytadjmgmdnekllaa
