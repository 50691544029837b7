/- LexBack: the law. -/
import Derived.Test.YtnjfcdmnedmldaaLexR
import Derived.Test.YtnjfcdmnedmldaaGlyO
import Derived.Test.YtnjfcdmnedmldaaKeep
namespace Go.Proofs.Ytnjfcdmnedmldaa
open Go.RowKit Go.Shelf
set_option linter.unusedVariables false
set_option linter.unusedSimpArgs false

def endAt : Nat → List (List UInt8 × Nat) → Nat
  | k, [] => k
  | k, t :: ts => endAt (k + t.2 + 1) ts
theorem endAt_snoc : ∀ (k : Nat) (ts : List (List UInt8 × Nat)) (t : List UInt8 × Nat), endAt k (ts ++ [t]) = endAt k ts + t.2 + 1
  | k, [], t => rfl
  | k, s :: ts, t => by rw [List.cons_append, endAt, endAt, endAt_snoc]
theorem placed_snoc : ∀ (k : Nat) (ts : List (List UInt8 × Nat)) (t : List UInt8 × Nat), placed k (ts ++ [t]) = placed k ts ++ [(t.1, endAt k ts)]
  | k, [], t => rfl
  | k, s :: ts, t => by rw [List.cons_append, placed, placed, placed_snoc]; rfl
theorem placed_len : ∀ (k : Nat) (ts : List (List UInt8 × Nat)), (placed k ts).length = ts.length
  | k, [] => rfl
  | k, s :: ts => by rw [placed, List.length_cons, placed_len, List.length_cons]
theorem placed_map : ∀ (k : Nat) (ts : List (List UInt8 × Nat)), (placed k ts).map (·.1) = ts.map (·.1)
  | k, [] => rfl
  | k, s :: ts => by rw [placed, List.map_cons, placed_map, List.map_cons]
/-- What the two lists are, behind k rounds. -/
structure Pk (k : Nat) (pk : List Wd) (ts : List (List UInt8 × Nat)) : Prop where
  len : pk.length = k
  tlen : ts.length = k
  same : pk.map (·.1) = ts.map (·.1)
  tx : ∀ x ∈ ts, Tx x.1 x.2
  short : ∀ w ∈ pk, w.1.length ≤ 800
  tshort : ∀ w ∈ placed 0 ts, w.1.length ≤ 800
  le : endAt 0 ts ≤ 801 * k
theorem Pk.more {k : Nat} {pk : List Wd} {ts : List (List UInt8 × Nat)} (h : Pk k pk ts) (x : Wd) (n : Nat) (hT : Tx x.1 n) (hs : x.1.length ≤ 800) : Pk (k + 1) (pk ++ [x]) (ts ++ [(x.1, n)]) where
  len := by rw [List.length_append, h.len]; rfl
  tlen := by rw [List.length_append, h.tlen]; rfl
  same := by rw [List.map_append, List.map_append, h.same]; rfl
  tx := fun y hy => by
    rw [List.mem_append, List.mem_singleton] at hy
    rcases hy with hy | rfl
    · exact h.tx y hy
    · exact hT
  short := fun y hy => by
    rw [List.mem_append, List.mem_singleton] at hy
    rcases hy with hy | rfl
    · exact h.short y hy
    · exact hs
  tshort := fun y hy => by
    rw [placed_snoc, List.mem_append, List.mem_singleton] at hy
    rcases hy with hy | rfl
    · exact h.tshort y hy
    · exact hs
  le := by
    have h1 := h.le
    have h2 := rns_le x.1 0
    rw [hT.runes] at h2
    rw [endAt_snoc]
    show endAt 0 ts + n + 1 ≤ _
    omega
theorem Pk.zero : Pk 0 [] [] where
  len := rfl
  tlen := rfl
  same := rfl
  tx := fun x h => (List.not_mem_nil h).elim
  short := fun x h => (List.not_mem_nil h).elim
  tshort := fun x h => (List.not_mem_nil h).elim
  le := Nat.le_refl _

theorem own_blk_lt {w : World} {base e s n : Nat} {v : Value} {xs : List Value} (h : w.ownsRow base e s v n xs) : ∀ g, v.ownBlock = some g → g < w.heap.size := by
  intro g hg
  rcases h.2 with ⟨rfl, _⟩ | ⟨g', cap, cur, rfl, _, hh, _⟩
  · simp [Value.ownBlock] at hg
  · have : g' = g := by simpa [Value.ownBlock] using hg
    subst this
    exact lt_of_block hh

set_option maxRecDepth 20000 in
set_option maxHeartbeats 4000000 in
theorem lexBack_law (s : ByteArray) (O : Option Addr) (olen ocap : Nat) (ol : List UInt8) (W : World) (hO : IsBytes W O olen ocap ol) :
    Calls Try.prog 6 #[.string s, .slice O olen ocap] W fun e w' => e = .returned (.bool true) ∧ Below W.heap.size W w' := by
  have HW := hid works08_any
  have HO := hid hO
  obtain ⟨l, rfl⟩ : ∃ l, s = str l := ⟨s.data.toList, by simp [str]⟩
  obtain rfl : olen = ol.length := hO.len.1
  clear hO
  by_cases hlong : 200 < l.length
  · have HL := hid (fun W => rwords_long l hlong W)
    clear hlong
    go_enter Try.func6, Try.ntmps6
    go_wp2_with fail
    refine (HL.out _).mono ?_
    rintro e w1 ⟨rfl, hb1⟩
    go_wp2_with (go_at_call 26; refine (HW.out _).mono ?_; rintro e w7 ⟨rfl, hb7⟩)
    go_ret
    exact ⟨rfl, hb1.trans (hb7.mono hb1.size)⟩
  · have HM := hid (rwords_is l (by omega) W)
    have HG := hid (lexW_good l)
    generalize lexW l = F at *
    obtain ⟨ws, at', er⟩ := F
    simp only at HM HG
    generalize hn : ws.length = n at HM
    have HN2 := hid hn
    clear hn
    have hlong2 := hid hlong
    clear hlong hlong2
    go_enter Try.func6, Try.ntmps6
    go_wp2_with fail
    refine HM.out.mono ?_
    rintro e w1 ⟨A1, c1, rfl, ho1, hb1⟩
    obtain ⟨A1', c1', h1, hs1⟩ := Sl.of_own ho1
    cases h1
    have HS1 := hid hs1
    have HB1 := hid hb1
    have HO1 := hid (HO.out.below hb1)
    clear hs1 hb1 ho1 HM HO
    by_cases her : er = 0
    · subst her
      by_cases hws : n = 0
      · subst hws
        go_wp2_with (go_at_call 26; refine (HW.out _).mono ?_; rintro e w7 ⟨rfl, hb7⟩)
        go_ret
        exact ⟨rfl, HB1.out.trans (hb7.mono HB1.out.size)⟩
      · have h2 : ¬ ((n : Nat) : Int) = 0 := by omega
        by_cases hol : ol.length ≤ 30
        · have h3 : ((ol.length : Nat) : Int) ≤ 30 := by omega
          have H7 := hid (show (((n : Nat) : Int) == 0) = false by simpa using h2)
          have H4 := hid (show ¬ (30 : Int) < ((ol.length : Nat) : Int) by omega)
          have hws1 : 0 < n := by omega
          clear hws
          go_wp2_with fail
          · rcases ‹((n : Int) == 0) = true ∨ 30 < ((ol.length : Nat) : Int)› with h9 | h9
            · rw [H7.out] at h9
              exact absurd h9 (by simp)
            · have := H4.out
              omega
          generalize (((n : Nat) : Int) == 0) = bb0
          generalize decide ((30 : Int) < ((ol.length : Nat) : Int)) = bb1
          go_loopw [8, 9, 10, 11] (fun v8 v9 a i wr => ∃ k pk ts, k ≤ ol.length ∧ i = .int .i64 (k : Nat) ∧ a = .int .i64 (endAt 0 ts : Nat) ∧ Hid (Pk k pk ts) ∧ Hid (wr.ownsRow w1.heap.size 54 2 v8 k (wcells pk)) ∧ Hid (wr.ownsRow w1.heap.size 53 2 v9 k (wcells (placed 0 ts))) ∧ Hid (Below w1.heap.size w1 wr)) (fun _ _ _ i _ => ol.length - (intOf i).toNat)
          case atStart => exact ⟨0, [], [], Nat.zero_le _, rfl, rfl, Pk.zero, World.ownsRow_nil _ _ _ _, World.ownsRow_nil _ _ _ _, Below.refl _ _⟩
          case round =>
            obtain ⟨k, pk, ts, hk, rfl, rfl, HP, H8, H9, HB⟩ := hrel
            have HLE := hid HP.out.le
            by_cases hlt : k < ol.length
            · have hlt2 : (k : Int) < (ol.length : Int) := by omega
              obtain ⟨ob, ooff, rfl, hoc⟩ := (HO1.out.below HB.out).at k hlt
              have hc8 : (ol.getD k 0).toNat < 256 := (ol.getD k 0).toNat_lt
              generalize (ol.getD k 0).toNat = c at hoc hc8
              have hwr : wrap64 (c : Int) = (c : Int) := by unfold wrap64; omega
              have hrem : (c : Int).tmod (n : Int) = ((c % n : Nat) : Int) := rfl
              have hj : c % n < n := Nat.mod_lt _ hws1
              generalize c % n = j at *
              obtain ⟨b, off, hA⟩ := HS1.out.addr3 (by rw [wcells_length, HN2.out]; omega)
              subst hA
              have hj3 : j < ws.length := by rw [HN2.out]; exact hj
              have hSw : Sl wr 2 (some ⟨b, off, none⟩) ws.length c1 (wcells ws) := by rw [HN2.out]; exact HS1.out.below HB.out
              obtain ⟨x1c, x2c⟩ := hSw.word j hj3
              clear hSw
              have HX := hid (HG.out ws[j] (List.getElem_mem ..))
              have hj2 : (j : Int) < (n : Int) := by omega
              generalize ws[j] = x at *
              obtain ⟨x1, x2⟩ := x
              simp only at x1c x2c HX
              go_upto_region 11 with (fail)
              have HNB0 := own_blk_lt H9.out
              have KK : (wr.alloc (Obj.cells #[Value.string (str x1), Value.int IntKind.i64 (x2 : Nat)] 53)).heap[wr.heap.size]? = some (Obj.cells #[Value.string (str x1), Value.int IntKind.i64 (x2 : Nat)] 53 (0, 0)) ∧ (wr.alloc (Obj.cells #[Value.string (str x1), Value.int IntKind.i64 (x2 : Nat)] 53)).ownsRow w1.heap.size 54 2 u8 k (wcells pk) ∧ (wr.alloc (Obj.cells #[Value.string (str x1), Value.int IntKind.i64 (x2 : Nat)] 53)).ownsRow w1.heap.size 53 2 u9 k (wcells (placed 0 ts)) ∧ Below w1.heap.size w1 (wr.alloc (Obj.cells #[Value.string (str x1), Value.int IntKind.i64 (x2 : Nat)] 53)) :=
                ⟨heap_alloc_new wr _, H8.out.alloc _, H9.out.alloc _, HB.out.alloc HB.out.size _⟩
              have hNB := HB.out.size
              have HNB := hid HNB0
              clear x1c x2c hoc HNB0 H8 H9 HB
              refine at_world (fun w => w.heap[wr.heap.size]? = some (Obj.cells #[Value.string (str x1), Value.int IntKind.i64 (x2 : Nat)] 53 (0, 0)) ∧ w.ownsRow w1.heap.size 54 2 u8 k (wcells pk) ∧ w.ownsRow w1.heap.size 53 2 u9 k (wcells (placed 0 ts)) ∧ Below w1.heap.size w1 w) KK ?_
              clear KK
              rintro w2 ⟨hc, h8, h9, hb⟩
              have HC := hid hc
              have H8 := hid h8
              have H9 := hid h9
              have HB := hid hb
              obtain ⟨c0, c1', _, _⟩ := two_cells hc
              clear hc h8 h9 hb
              generalize wr.heap.size = N at *
              go_wp2_with (at_builtin; refine wpList_append_1k (W := w1) rfl (.tmp 53) (.tmp 59) 45 rfl w1.heap.size 54 Try.underlying45 info_word rfl (by omega) rfl H8.out rfl rfl (by simp; exact ⟨rfl, rfl⟩) ?c1 ?c2 HB.out.size HB.out ?_)
              case c1 => unfold maxLen; omega
              case c2 => omega
              intro v8 w3 g2 g3 g4 g5
              have HC3 := hid ((g5 N hNB (lt_of_block HC.out) (own_blk_ne H8.out HC.out (by decide))).trans HC.out)
              have H93 := hid (own_other H9.out H8.out (by decide) g5)
              have H83 : Hid (w3.ownsRow w1.heap.size 54 2 v8 (k + 1) (wcells (pk ++ [(x1, x2)]))) := hid (by rw [wcells_append]; exact g2)
              have HB3 := hid g3
              clear g2 g3 g4 g5 HC H8 H9 HB c0 c1'
              obtain ⟨c0, c1', _, _⟩ := two_cells HC3.out
              go_wp2_with (at_builtin; refine wpList_append_1k (W := w1) rfl (.tmp 61) (.tmp 66) 48 rfl w1.heap.size 53 Try.underlying48 info_rword rfl (by omega) rfl H93.out rfl rfl (by simp; exact ⟨rfl, rfl⟩) ?c1 ?c2 HB3.out.size HB3.out ?_)
              case c1 => unfold maxLen; omega
              case c2 => omega
              intro v9 w4 g2 g3 g4 g5
              have HC4 := hid ((g5 N hNB (lt_of_block HC3.out) (fun e => Nat.lt_irrefl N (HNB.out N e))).trans HC3.out)
              have H84 := hid (own_other H83.out H93.out (by decide) g5)
              obtain ⟨m, hm⟩ := HX.out.1
              have H94 : Hid (w4.ownsRow w1.heap.size 53 2 v9 (k + 1) (wcells (placed 0 (ts ++ [(x1, m)])))) := hid (by rw [placed_snoc, wcells_append]; exact g2)
              have HB4 := hid g3
              clear g2 g3 g4 g5 HC3 H83 H93 HB3 c0 c1'
              obtain ⟨c0, c1', _, _⟩ := two_cells HC4.out
              have HRU := hid (rrunes_is x1 (by have := HX.out.2; omega) w4)
              rw [hm.runes] at HRU
              have hml : m ≤ 800 := by have h1 := rns_le x1 0; rw [hm.runes] at h1; have := HX.out.2; omega
              have HP2 := hid (HP.out.more (x1, x2) m hm HX.out.2)
              have HE2 := hid (endAt_snoc 0 ts (x1, m))
              have hle := HLE.out
              generalize endAt 0 ts = en at *
              go_wp2_with (go_at_call 30; refine HRU.out.mono ?_; rintro e w5 ⟨A5, c5, rfl, _, hb5⟩)
              have HB5 := hid (HB4.out.trans (hb5.mono HB4.out.size))
              have H85 := hid (own_keep H84.out hb5)
              have H95 := hid (own_keep H94.out hb5)
              clear H84 H94 HB4 hb5 HC4 c0 c1'
              go_wp2
              go_roundw
              case rel => exact ⟨k + 1, pk ++ [(x1, x2)], ts ++ [(x1, m)], by omega, by go_num, by rw [HE2.out]; go_num, HP2.out, H85.out, H95.out, HB5.out⟩
              case measure => simp [intOf]; omega
            · obtain rfl : k = ol.length := by omega
              have hge : ¬ ((ol.length : Nat) : Int) < ((ol.length : Nat) : Int) := by omega
              obtain ⟨A8, c8, rfl, hs8⟩ := Sl.of_own H8.out
              obtain ⟨A9, c9, rfl, hs9⟩ := Sl.of_own H9.out
              have hol30 : ol.length ≤ 30 := hol
              have HJ8 : Hid (∀ W', Below wr.heap.size wr W' → Calls Try.prog 31 #[.slice A8 ol.length c8] W' fun e w' => e = .returned (.string (str (jt (pk.map (·.1))))) ∧ Below W'.heap.size W' w') := hid (fun W' h => by
                have h9 := join_is A8 c8 pk W' (by rw [HP.out.len]; exact hs8.below h) (by rw [HP.out.len]; exact hol30) HP.out.short
                rw [HP.out.len] at h9
                exact h9)
              have HJ9 : Hid (∀ W', Below wr.heap.size wr W' → Calls Try.prog 32 #[.slice A9 ol.length c9] W' fun e w' => e = .returned (.string (str (jt (pk.map (·.1))))) ∧ w' = W') := hid (fun W' h => by
                have h9 := rjoin_is A9 c9 (placed 0 ts) W' (by rw [placed_len, HP.out.tlen]; exact hs9.below h) (by rw [placed_len, HP.out.tlen]; exact hol30) HP.out.tshort
                rw [placed_len, HP.out.tlen, placed_map, ← HP.out.same] at h9
                exact h9)
              have HS9 := hid hs9
              have HJL : Hid ((jt (pk.map (·.1))).length ≤ 24030) := hid (by
                have := jt_len pk pk.length (Nat.le_refl _) HP.out.short
                rw [List.take_length, HP.out.len] at this
                omega)
              have HLW : Hid (lexW (jt (ts.map (·.1))) = if 200 < (jt (ts.map (·.1))).length then ([], 0, 4) else (placed 0 ts, 0, 0)) := hid (lexW_join ts HP.out.tx)
              rw [Hid, ← HP.out.same] at HLW
              have HLW := hid HLW
              have HB2 := hid HB.out
              clear hlt hk hs8 hs9 H8 H9 HB
              generalize jt (pk.map (·.1)) = J at *
              have HPL : Hid ((placed 0 ts).length = ol.length) := hid ((placed_len 0 ts).trans HP.out.tlen)
              generalize placed 0 ts = wn at *
              have hJs : ((str J).toList != (str J).toList) = false := by simp
              go_wp2_with fail
              with_reducible refine (HJ8.out _ (Below.refl _ _)).mono ?_
              rintro e w5 ⟨rfl, hb5⟩
              go_wp2_with fail
              with_reducible refine (HJ9.out _ hb5).mono ?_
              rintro e w5' ⟨rfl, rfl⟩
              have HS95 := hid (HS9.out.below hb5)
              have HB5 := hid (HB2.out.trans (hb5.mono HB2.out.size))
              clear hb5 HJ8 HJ9 HS9 HB2
              have HSZ := hid (str_size J)
              by_cases h200 : 200 < J.length
              · have h9 : (200 : Int) < ((str J).size : Int) := by rw [HSZ.out]; omega
                have HWL := hid (words_long J h200 (by have := HJL.out; omega))
                clear h200
                go_wp2_with fail
                with_reducible refine (HWL.out _).mono ?_
                rintro e w6 ⟨rfl, hb6⟩
                have HB6 := hid (HB5.out.trans (hb6.mono HB5.out.size))
                clear hb6
                go_wp2_with (go_at_call 26; refine (HW.out _).mono ?_; rintro e w7 ⟨rfl, hb7⟩)
                go_ret
                have g1 := HB1.out.trans (HB6.out.mono HB1.out.size)
                exact ⟨rfl, g1.trans (hb7.mono g1.size)⟩
              · have h9 : ((str J).size : Int) ≤ 200 := by rw [HSZ.out]; omega
                have HWI := hid (words_is J (by omega) w5')
                rw [Hid, HLW.out, if_neg h200] at HWI
                simp only at HWI
                rw [HPL.out] at HWI
                have HWI := hid HWI
                clear h200
                go_wp2_with fail
                refine HWI.out.mono ?_
                rintro e w6 ⟨A6, c6, rfl, ho6, hb6⟩
                obtain ⟨A6', c6', h6, hs6⟩ := Sl.of_own ho6
                cases h6
                have HSM := hid (same_words A6 A9 c6 c9 wn w6 (by rw [HPL.out]; exact hs6) (by rw [HPL.out]; exact HS95.out.below hb6) (by rw [HPL.out]; omega))
                rw [Hid, HPL.out] at HSM
                have HSM := hid HSM
                have HB6 := hid (HB5.out.trans (hb6.mono HB5.out.size))
                clear hb6 hs6 ho6 HWI
                go_wp2_with fail
                refine HSM.out.mono ?_
                rintro e w8 ⟨rfl, q, rfl⟩
                go_wp2_with (go_at_call 26; refine (HW.out _).mono ?_; rintro e w7 ⟨rfl, hb7⟩)
                go_ret
                have g1 := HB1.out.trans (HB6.out.mono HB1.out.size)
                have g2 := g1.trans ((below_drewN1 w6 q).mono g1.size)
                exact ⟨rfl, g2.trans (hb7.mono g2.size)⟩
        · have h3 : 30 < ((ol.length : Nat) : Int) := by omega
          go_wp2_with (go_at_call 26; refine (HW.out _).mono ?_; rintro e w7 ⟨rfl, hb7⟩)
          go_ret
          exact ⟨rfl, HB1.out.trans (hb7.mono HB1.out.size)⟩
    · have h2 : ¬ ((er : Nat) : Int) = 0 := by omega
      go_wp2_with (go_at_call 26; refine (HW.out _).mono ?_; rintro e w7 ⟨rfl, hb7⟩)
      go_ret
      exact ⟨rfl, HB1.out.trans (hb7.mono HB1.out.size)⟩
end Go.Proofs.Ytnjfcdmnedmldaa
