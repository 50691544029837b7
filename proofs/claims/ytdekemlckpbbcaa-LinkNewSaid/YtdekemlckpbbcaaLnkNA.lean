/- LinkNew: the law. -/
import Derived.Test.YtdekemlckpbbcaaLnkZ
import Derived.Test.YtdekemlckpbbcaaStrC
import Derived.BigQuiet
import Derived.Lib.QuietBelow
import Derived.Deep.CutRange
namespace Go.Proofs.Ytdekemlckpbbcaa
open Go.RowKit Go.Lib Go.Sort
set_option linter.unusedVariables false
set_option linter.unusedSimpArgs false

def lastT : List UInt8 := [108, 97, 115, 116]
theorem lastT_str : (⟨#[108, 97, 115, 116]⟩ : ByteArray) = str lastT := rfl
/-- The last text is put. -/
theorem new_put (I : Int) (c q n : Nat) (w f : Int) (hq : q ≤ n) (h16 : n ≤ q + 16) (hn : n ≤ 1000) (hp : q < n → pok w f = true ∧ 1 ≤ f) : ∃ sent w' f', putE (mkE 8 0 c q n w f) 99 lastT = ((phB I ((q : Int) + 1) c (namesT q n ++ [lastT]) (.old sent w' f'), phW I ((q : Int) + 1) (namesT q n ++ [lastT]) (.old sent w' f')), 0) ∧ phOk (namesT q n ++ [lastT]) (.old sent w' f') := by
  have hm : lastT ∉ namesT q n := fun h => by
    unfold namesT at h
    obtain ⟨a, _, he⟩ := List.mem_map.1 h
    have := (List.cons.inj he).1
    revert this
    decide
  have hl := namesT_len q n
  unfold putE
  rw [if_neg (show ¬ 32 < lastT.length by decide)]
  have hv : ∀ l : List (List UInt8), lastT ∉ l → ¬ 99 ≤ l.length → putV ⟨1, (q : Int) + 1, l, w, f⟩ 99 lastT = if l = [] then (((⟨1, (q : Int) + 1, [lastT], 1, 1⟩ : Ov), true), (0 : Int)) else (((⟨1, (q : Int) + 1, l ++ [lastT], w, f⟩ : Ov), false), (0 : Int)) := by
    intro l hm h9
    unfold putV
    rw [if_neg (by decide), if_neg hm, if_neg (by simp only; omega)]
  rw [show (mkE 8 0 c q n w f).o = ⟨1, (q : Int) + 1, namesT q n, w, f⟩ from rfl, hv _ hm (by omega)]
  by_cases h0 : q = n
  · subst h0
    have h2 := namesT_nil (Nat.le_refl q)
    rw [h2, if_pos rfl]
    exact ⟨true, 1, 1, by simp [phB, phW, bO, setO, dataV, mkE, txt], by decide, by decide⟩
  · have hc := namesT_cons (show q < n by omega)
    rw [if_neg (by rw [hc]; simp)]
    obtain ⟨h1, h2⟩ := hp (by omega)
    exact ⟨false, w, f, by simp [phB, phW, bO, setO, dataV, mkE], h1, h2⟩
theorem new_ok (q n : Nat) (hq : q ≤ n) (h16 : n ≤ q + 16) (hn : n ≤ 1000) : LOk (namesT q n ++ [lastT]) ∧ (namesT q n ++ [lastT]).length ≤ 17 := by
  have hl := namesT_len q n
  refine ⟨⟨by simp, by rw [List.length_append, hl]; simp; omega, fun t ht => ?_⟩, by rw [List.length_append, hl]; simp; omega⟩
  rcases List.mem_append.1 ht with h | h
  · unfold namesT at h
    obtain ⟨a, ha, rfl⟩ := List.mem_map.1 h
    have := List.mem_range'_1.1 ha
    exact nmT_len a (by omega)
  · obtain rfl : t = lastT := by simpa using h
    decide
def mkN (x : Pr) (I q c : Int) (L : List (List UInt8)) (ph : Ph) : Pr := ⟨phA I L ph, phB I q c L ph, x.w, x.p0, x.p1, x.c0, x.c1, x.ok⟩
/-- What holds with n rounds to go. -/
def NI (W u : World) (g : Nat) (x : Pr) (I q c : Int) (L : List (List UInt8)) (D : Option Addr) (cd : Nat) (T : Option Addr) (tc : Nat) (n k : Nat) (E : Option Addr) (le ce : Nat) (G : Option Addr) (lg gc : Nat) : Prop :=
  ∃ ph A ca B cb m, NX W u g (mkN x I q c L ph) A ca B cb D cd E ce (phW I q L ph) G gc (phG L ph) T tc L ∧ le = (phW I q L ph).length ∧ lg = (phG L ph).length ∧ phOk L ph ∧ phM m ph ∧ m ≤ n ∧ phN L ph + k ≤ 3000
theorem phN_le {L : List (List UInt8)} (h : L.length ≤ 17) (ph : Ph) : phN L ph ≤ 36 := by
  cases ph with
  | old s w f => cases s <;> simp [phN] <;> omega
  | hel w f => simp only [phN]; omega
  | dat s => simp only [phN]; omega
  | ack s => simp only [phN]; omega
  | fin => simp [phN]
theorem phG_le (L : List (List UInt8)) (ph : Ph) : (phG L ph).length ≤ L.length := by
  cases ph with
  | old s w f => exact Nat.zero_le _
  | hel w f => exact Nat.zero_le _
  | dat s => simp only [phG, List.length_take]; omega
  | ack s => simp only [phG, List.length_take]; omega
  | fin => exact Nat.le_refl _
theorem phA_l (I : Int) (L : List (List UInt8)) (ph : Ph) : (phA I L ph).o.l = [] := by cases ph <;> rfl
theorem phA_pre (I : Int) (L : List (List UInt8)) (ph : Ph) (hp : phOk L ph) (h : L.length ≤ 17) : 0 ≤ (phA I L ph).l ∧ (phA I L ph).l ≤ 9223372036854775807 ∧ (phA I L ph).o.q < 9223372036854775807 ∧ -9223372036854775808 ≤ (phA I L ph).o.q := by
  cases ph with
  | old s w f => simp only [phA, aN]; omega
  | hel w f => simp only [phA, aN]; omega
  | dat s => have : s < L.length := hp; simp only [phA, aN]; omega
  | ack s => have : s < L.length := hp; simp only [phA, aN]; omega
  | fin => simp only [phA, aN]; omega
theorem phB_pre (I q c : Int) (hq : 1 ≤ q) (hq9 : q ≤ 1000000) (L : List (List UInt8)) (ph : Ph) (hp : phOk L ph) (h : L.length ≤ 17) (hc : 0 ≤ c) (hc9 : c ≤ 1000000) : (phB I q c L ph).o.l.length ≤ 1000 ∧ 0 ≤ (phB I q c L ph).l ∧ (phB I q c L ph).l ≤ 9223372036854775807 ∧ (phB I q c L ph).o.q < 9223372036854775807 ∧ -9223372036854775808 ≤ (phB I q c L ph).o.q := by
  cases ph with
  | old s w f => simp only [phB, bO]; omega
  | hel w f => simp only [phB, bO]; omega
  | dat s => have : s < L.length := hp; simp only [phB, bN, List.length_drop]; omega
  | ack s => have : s < L.length := hp; simp only [phB, bN, List.length_drop]; omega
  | fin => simp only [phB, bN, List.length_nil]; omega
theorem sl_empty {w : World} {A : Option Addr} {ca : Nat} {l : List (List UInt8)} (h : l = []) (hc : ca ≤ maxLen) : Sl w 1 A l.length ca (scells l) := by
  subst h
  exact Sl.nil w 1 ca A hc
theorem len_empty {l : List (List UInt8)} (h : l = []) : l.length ≤ 1000 := by
  subst h
  exact Nat.zero_le _
theorem sl_eq {w : World} {A : Option Addr} {ca : Nat} {e e' : Ev} (h : e = e') (hs : Sl w 1 A e'.o.l.length ca (scells e'.o.l)) : Sl w 1 A e.o.l.length ca (scells e.o.l) := by
  subst h
  exact hs
theorem info_str9 : (Try.prog.info? 9).map (fun i => (i.zero, i.size, i.bytes)) = some (some (.string ⟨#[]⟩), 1, 16) := by kernel_rfl

set_option maxRecDepth 20000 in
set_option maxHeartbeats 16000000 in
theorem linkNew_law (A : Option Addr) (len cap : Nat) (inc : Nat) (hinc : inc < 256) (W : World) (h : Rd Try.prog W 79 [.slice A len cap]) :
    Calls Try.prog 7 #[.slice A len cap, .int .u8 (inc : Int)] W fun e w' => e = .returned (.bool true) ∧ Below W.heap.size W w' := by
  obtain ⟨l, hA, rfl⟩ := acts_in h
  have HA := hid hA
  have HLM := hid (Nat.le_trans hA.2.1 hA.2.2.1)
  have hcv : ∀ w : World, (convert 5 3 (.int .u8 (inc : Int))).run Try.prog w = .ok (.int .i64 (inc : Int)) w := fun w => by
    rw [run_convert_int (P := Try.prog) w 5 3 .u8 (inc : Int) (by rw [Try.underlying5]; rfl) Try.underlying3]
    have : IntKind.i64.wrap (inc : Int) = (inc : Int) := by simp [IntKind.wrap, IntKind.bits, IntKind.signed]; omega
    rw [show Try.prog.intKind 3 = .i64 by unfold Program.intKind; rw [Try.underlying3], this]
  have hwi : IntKind.i64.wrap (2 + (inc : Int)) = 2 + (inc : Int) := by simp [IntKind.wrap, IntKind.bits, IntKind.signed]; omega
  have HCV := hid hcv
  have HWI := hid hwi
  clear hA h hcv hwi
  go_enter Try.func7, Try.ntmps7
  go_wp2_with fail
  refine (begunP_any _).mono ?_
  rintro e w1 ⟨g, hg, rfl, hc, hb⟩
  have HK := hid (KL.begun hg hc hb)
  have HG := hid hg
  clear hg hc hb
  go_wp2
  go_loopw [6] (fun i wr => ∃ k : Nat, k ≤ l.length ∧ k ≤ 100 ∧ i = .int .i64 (k : Int) ∧ Hid (KL W wr g k)) (fun i _ => l.length - (intOf i).toNat)
  case atStart => exact ⟨0, by omega, by omega, rfl, HK⟩
  case round =>
    obtain ⟨k, hk, hk2, rfl, HK⟩ := hrel
    by_cases hlt : k < l.length ∧ k < 100
    · obtain ⟨i4, i5⟩ := hlt
      have i1 : (k : Int) < (l.length : Int) := by omega
      have i2 : (k : Int) < 100 := by omega
      have i3 : ¬ ((k : Int) < 0) := by omega
      obtain ⟨b, off, rfl, hcl⟩ := Sl.gat (f := acc) (n := 2) (fun _ => rfl) (HA.out.below (HK.out.below)) k i4 (by omega)
      have c0 := hcl 0 _ rfl
      have c1' := hcl 1 _ rfl
      simp only [Nat.add_zero] at c0
      clear hcl
      go_wp2_with fail
      refine (HK.out.doit (by omega) _ _).mono ?_
      rintro e w2 ⟨⟨v, rfl⟩, hk3⟩
      have HK3 := hid hk3
      clear hk3
      go_wp2
      go_roundw
      case rel => exact ⟨k + 1, by omega, by omega, by go_num, HK3⟩
      case measure => simp [intOf]; omega
    · obtain ⟨a, b, w, A1, ca, B1, cb, D1, cd, hx, hi⟩ := HK.out
      have hi2 := hi.up (show k ≤ 100 by omega) (show k ≤ 100 by omega)
      have HX := hid hx
      have HI := hid hi2
      clear hx hi hi2 HK
      go_upto_region 3 with (fail)
      go_cut [38] from 31 to 38 (fun v wx => v = .bool false ∧ wx = wr)
      case first =>
        rcases (by omega : l.length ≤ k ∨ (k < l.length ∧ 100 ≤ k)) with h9 | ⟨h9, h8⟩
        · have d1 : decide ((k : Int) < (l.length : Int)) = false := decide_eq_false (by omega)
          have i1 : ¬ ((k : Int) < (l.length : Int)) := by omega
          clear h9
          go_wp2_with fail
          go_meet
          exact ⟨rfl, rfl⟩
        · have i1 : (k : Int) < (l.length : Int) := by omega
          have i2 : ¬ ((k : Int) < 100) := by omega
          have d1 : decide ((k : Int) < (l.length : Int)) = true := decide_eq_true i1
          have d2 : decide ((k : Int) < 100) = false := decide_eq_false i2
          clear h9 h8
          go_wp2_with fail
          go_meet
          exact ⟨rfl, rfl⟩
      case rest =>
        obtain ⟨rfl, hwc⟩ := hcut
        subst hwc
        have hcv := HCV.out
        have hwi := HWI.out
        go_upto_region 6 with (fail)
        have hgx := HX.out.1
        simp only [prc] at hgx
        obtain ⟨_, ⟨cg0, cg1, cg2, cg3, cg4, cg5, cg6, cg7, cg8, cg9, cg10, cg11, cg12, cg13, cg14, cg15, cg16, cg17, cg18, cg19, cg20, cg21, cg22, cg23, cg24, cg25, cg26, cg27⟩⟩ := pair_cells hgx
        clear hgx
        go_wp2_with fail
        refine (lnew_any 0 8 (2 + (inc : Int)) _).mono ?_
        rintro e w2 ⟨rfl, hb2⟩
        simp only [ec, newE, List.length_nil]
        have HX2 := hid (HX.out.keep hb2)
        have hgx := HX2.out.1
        simp only [prc] at hgx
        clear cg0 cg1 cg2 cg3 cg4 cg5 cg6 cg7 cg8 cg9 cg10 cg11 cg12 cg13 cg14 cg15 cg16 cg17 cg18 cg19 cg20 cg21 cg22 cg23 cg24 cg25 cg26 cg27 hb2 HX
        obtain ⟨_, ⟨cg0, cg1, cg2, cg3, cg4, cg5, cg6, cg7, cg8, cg9, cg10, cg11, cg12, cg13, cg14, cg15, cg16, cg17, cg18, cg19, cg20, cg21, cg22, cg23, cg24, cg25, cg26, cg27⟩⟩ := pair_cells hgx
        clear hgx
        go_upto_region 7 with (fail)
        refine at_world (fun u => PX W u g (setPA (mkP a b w) (newE 0 8 (2 + (inc : Int)))) none 0 B1 cb D1 cd) (HX2.out.setA (e := newE 0 8 (2 + (inc : Int))) (A' := none) (c' := 0) (World.ownsRow_nil _ _ _ _)) ?_
        clear cg0 cg1 cg2 cg3 cg4 cg5 cg6 cg7 cg8 cg9 cg10 cg11 cg12 cg13 cg14 cg15 cg16 cg17 cg18 cg19 cg20 cg21 cg22 cg23 cg24 cg25 cg26 cg27 HX2
        rintro w3 hx3
        have hgx := hx3.1
        simp only [prc, setPA, mkP, mkE, newE] at hgx
        have HX3 := hid hx3
        obtain ⟨⟨p0, p1, p2, p3, p4, p5, p6, p7, p8, p9, p10, p11, p12, p13, p14, p15, p16, p17, p18, p19, p20, p21, p22, p23, p24, p25, p26, p27⟩, _⟩ := pair_cells hgx
        clear hgx hx3
        have hgl := lt_of_block HX3.out.1
        have hq1 := HI.out.2.h4
        have hq2 := HI.out.2.h1
        have hq3 := HI.out.2.h3
        have hq4 := HI.out.nb
        have hln := namesT_len b.q b.n
        have hB16 : (namesT b.q b.n).length ≤ 16 := by omega
        have HE0 := hid (Mid.of_own (own_empty w3 9 1))
        have hsl3 : Sl (w3.alloc (.cells #[] 9)) 1 B1 (namesT b.q b.n).length cb (scells (namesT b.q b.n)) := (sl_own HX3.out.2.2.2.1).below ((Below.refl _ _).alloc (Nat.le_refl _) _)
        have HSL3 := hid hsl3
        have hbs : Below w3.heap.size w3 (w3.alloc (.cells #[] 9)) := (Below.refl _ _).alloc (Nat.le_refl _) _
        have HBS := hid hbs
        have hle := hbs.size
        have HNL := hid hln
        have HQ := hid (And.intro hq1 (And.intro hq2 (And.intro hq3 hq4)))
        clear hsl3 hbs hq1 hq2 hq3 hq4 hln
        go_wp2_with (at_builtin; refine wpList_append_mid rfl (.tmp 54) (.tmp 60) 24 rfl w3.heap.size 9 Try.underlying24 info_str9 rfl (by omega) rfl HE0.out rfl HSL3.out (scells_one _) (by unfold maxLen; omega) (by omega) hle HBS.out ?_)
        intro v5 w5 ho5 hb5 hsz5 hk5
        obtain ⟨T5, c5, rfl, _⟩ := Mid.form ho5
        go_upto_region 8 with (fail)
        refine at_world (fun u => Mid u w3.heap.size 9 1 (.slice T5 (namesT b.q b.n).length c5) (namesT b.q b.n).length (scells (namesT b.q b.n)) ∧ Below w3.heap.size w3 u) ⟨ho5, hb5⟩ ?_
        clear ho5 hb5 hsz5 hk5 HE0 HSL3 HBS hle p0 p1 p2 p3 p4 p5 p6 p7 p8 p9 p10 p11 p12 p13 p14 p15 p16 p17 p18 p19 p20 p21 p22 p23 p24 p25 p26 p27 hgl
        rintro w6 ⟨ht6, hb6⟩
        have HT6 := hid (ht6.keep ((Below.refl _ _).alloc (Nat.le_refl _) (.cells #[.string ⟨#[108, 97, 115, 116]⟩] 9)))
        have HB6 := hid (hb6.alloc hb6.size (.cells #[.string ⟨#[108, 97, 115, 116]⟩] 9))
        have HS6 := hid (Sl.lit w6 9 1 1 #[.string ⟨#[108, 97, 115, 116]⟩] rfl (by unfold maxLen; omega))
        have hle6 := HB6.out.size
        clear ht6 hb6
        go_wp2_with (at_builtin; refine wpList_append_mid rfl (.tmp 62) (.tmp 63) 24 rfl w3.heap.size 9 Try.underlying24 info_str9 rfl (by omega) rfl HT6.out rfl HS6.out (by simp; rfl) (by unfold maxLen; omega) (by omega) hle6 HB6.out ?_)
        intro v7 w7 ho7 hb7 hsz7 hk7
        obtain ⟨T7, c7, rfl, _⟩ := Mid.form ho7
        go_upto_region 9 with (fail)
        have hls : scells (namesT b.q b.n) ++ [Value.string ⟨#[108, 97, 115, 116]⟩] = scells (namesT b.q b.n ++ [lastT]) := by
          rw [scells_snoc, ← lastT_str]
        refine at_world (fun u => Mid u w3.heap.size 9 1 (.slice T7 ((namesT b.q b.n).length + 1) c7) ((namesT b.q b.n).length + 1) (scells (namesT b.q b.n ++ [lastT])) ∧ PX W u g (setPA (mkP a b w) (newE 0 8 (2 + (inc : Int)))) none 0 B1 cb D1 cd) ⟨by rw [← hls]; exact ho7, HX3.out.keep hb7⟩ ?_
        clear ho7 hb7 hsz7 hk7 HT6 HB6 HS6 hle6 hls
        rintro w8 ⟨ht8, hx8⟩
        have HT8 := hid (ht8.mono HX3.out.2.2.2.2.2.size)
        have hgx := hx8.1
        simp only [prc, setPA, mkP, mkE, newE] at hgx
        have HX8 := hid hx8
        obtain ⟨⟨p0, p1, p2, p3, p4, p5, p6, p7, p8, p9, p10, p11, p12, p13, p14, p15, p16, p17, p18, p19, p20, p21, p22, p23, p24, p25, p26, p27⟩, _⟩ := pair_cells hgx
        clear hgx hx8 ht8 HX3
        have hQ := HQ.out
        obtain ⟨sent, w9, f9, hpe, hpo⟩ := new_put (2 + (inc : Int)) b.c b.q b.n b.w b.f (by omega) (by omega) (by omega) (fun h => HI.out.2.h5 h)
        obtain ⟨hLO, hL17⟩ := new_ok b.q b.n (by omega) (by omega) (by omega)
        have HPO := hid hpo
        have HLO := hid hLO
        have HL17 := hid hL17
        have HLN : Hid ((namesT b.q b.n).length + 1 = (namesT b.q b.n ++ [lastT]).length) := hid (by simp)
        have HQQ : Hid (b.q ≤ 100) := hid (by omega)
        have HPUT := hid (lput_any (mkE 8 0 b.c b.q b.n b.w b.f) 99 lastT B1 cb w8 (sl_own HX8.out.2.2.2.1) (by show (namesT b.q b.n).length ≤ 999; omega) (by decide))
        rw [hpe, ← lastT_str] at HPUT
        simp only [ec, mkE] at HPUT
        clear hpe hpo hLO hL17 hQ HQ
        generalize hLL : namesT b.q b.n ++ [lastT] = L at *
        have HXM : Hid ((mkP a b w).b.o.l = namesT b.q b.n) := hid rfl
        have hbb : (phB (2 + (inc : Int)) ((b.q : Int) + 1) b.c L (.old sent w9 f9)).o.l = L := rfl
        have HBB := hid hbb
        clear hbb hLL
        rw [HLN.out] at HT8 ⊢
        go_wp2_with fail
        refine HPUT.out.mono ?_
        rintro e w9' ⟨A2, c2, B2, d2, rfl, ho2, hP2, g2⟩
        simp only [ec, phB, bO]
        have HX9 := hid (HX8.out.keep g2)
        have HT9 := hid (HT8.out.keep g2)
        have HO9 := hid (own_mono ho2 HX8.out.2.2.2.2.2.size)
        have HP9 := hid (own_mono hP2 HX8.out.2.2.2.2.2.size)
        clear p0 p1 p2 p3 p4 p5 p6 p7 p8 p9 p10 p11 p12 p13 p14 p15 p16 p17 p18 p19 p20 p21 p22 p23 p24 p25 p26 p27 HX8 HT8 ho2 hP2 g2 HPUT
        go_upto_region 10 with (fail)
        have HAL : Below w9'.heap.size w9' (w9'.alloc (.cells (ec (phB (2 + (inc : Int)) ((b.q : Int) + 1) b.c L (.old sent w9 f9)) A2 c2) 54)) := (Below.refl _ _).alloc (Nat.le_refl _) _
        refine at_world (fun u => u.heap[w9'.heap.size]? = some (.cells (ec (phB (2 + (inc : Int)) ((b.q : Int) + 1) b.c L (.old sent w9 f9)) A2 c2) 54 (0, 0)) ∧ NX W u g (setPA (mkP a b w) (newE 0 8 (2 + (inc : Int)))) none 0 B1 cb D1 cd B2 d2 (phW (2 + (inc : Int)) ((b.q : Int) + 1) L (.old sent w9 f9)) none 0 [] T7 c7 L ∧ u.ownsRow W.heap.size 9 1 (.slice A2 L.length c2) L.length (scells L)) ⟨heap_alloc_new _ _, NX.keep ⟨HX9.out.1, HX9.out.2.1, rfl, Nat.zero_le _, HX9.out.2.2.2.1, Mid.of_own HP9.out, World.ownsRow_nil _ _ _ _, HT9.out, (fun j hj => by simp [Value.ownBlock] at hj), HX9.out.2.2.2.2.2⟩ HAL, own_keep HO9.out HAL⟩ ?_
        clear HX9 HT9 HO9 HP9 HAL
        generalize w9'.heap.size = Zb at *
        rintro w10 ⟨hz, hx, ho⟩
        have hz2 := hz
        simp only [ec, phB, bO] at hz2
        obtain ⟨⟨z0, z1, z2, z3, z4, z5, z6, z7, z8, z9, z10⟩, _⟩ := eleven_cells hz2
        have hgx := hx.hg
        simp only [prc] at hgx
        obtain ⟨_, ⟨cg0, cg1, cg2, cg3, cg4, cg5, cg6, cg7, cg8, cg9, cg10, cg11, cg12, cg13, cg14, cg15, cg16, cg17, cg18, cg19, cg20, cg21, cg22, cg23, cg24, cg25, cg26, cg27⟩⟩ := pair_cells hgx
        have HN10 := hid (hx.setB (e := phB (2 + (inc : Int)) ((b.q : Int) + 1) b.c L (.old sent w9 f9)) (R := A2) (rc := c2) ho (fun j hj => by simp [Value.ownBlock] at hj))
        have HZ10 := hid ((putB_other (blk_ne hx.hg hz (by decide)) (.int .i64 8) (.int .i64 0) (.int .i64 1) (.int .i64 1) (.int .i64 ((b.q : Int) + 1)) (.slice A2 L.length c2) (.int .i64 w9) (.int .i64 f9) (.int .i64 1) (.int .i64 1) (.int .i64 b.c)).trans hz)
        clear hz hz2 hx ho hgx
        go_upto_region 11 with (fail)
        refine at_world (fun u => NX W u g (mkN (mkP a b w) (2 + (inc : Int)) ((b.q : Int) + 1) b.c L (.old sent w9 f9)) none 0 A2 c2 D1 cd B2 d2 (phW (2 + (inc : Int)) ((b.q : Int) + 1) L (.old sent w9 f9)) none 0 [] T7 c7 L ∧ u.heap[Zb]? = some (.cells (ec (phB (2 + (inc : Int)) ((b.q : Int) + 1) b.c L (.old sent w9 f9)) A2 c2) 54 (0, 0))) ⟨HN10.out, HZ10.out⟩ ?_
        clear HN10 HZ10 z0 z1 z2 z3 z4 z5 z6 z7 z8 z9 z10 cg0 cg1 cg2 cg3 cg4 cg5 cg6 cg7 cg8 cg9 cg10 cg11 cg12 cg13 cg14 cg15 cg16 cg17 cg18 cg19 cg20 cg21 cg22 cg23 cg24 cg25 cg26 cg27
        rintro w11 ⟨hx, hz⟩
        simp only [ec, phB, bO] at hz
        obtain ⟨⟨z0, z1, z2, z3, z4, z5, z6, z7, z8, z9, z10⟩, _⟩ := eleven_cells hz
        have HX11 := hid hx
        clear hx hz
        have hbe : ((L.length : Int) != (L.length : Int)) = false := by simp
        have hL := HL17.out
        have hw1 : IntKind.i64.wrap ((L.length : Int) + 8) = ((L.length + 8 : Nat) : Int) := by
          simp [IntKind.wrap, IntKind.bits, IntKind.signed]; omega
        have hw2 : IntKind.i64.wrap (((L.length + 8 : Nat) : Int) + 3) = ((L.length + 11 : Nat) : Int) := by
          simp [IntKind.wrap, IntKind.bits, IntKind.signed]; omega
        go_upto_region 16 with (fail)
        have hpm9 : phM 9 (.old sent w9 f9) := by
          have h9 := (pok_iff _ _).1 HPO.out.1
          exact .inr (by omega)
        refine at_world (fun u => NI W u g (mkP a b w) (2 + (inc : Int)) ((b.q : Int) + 1) b.c L D1 cd T7 c7 (L.length + 11) 0 B2 (phW (2 + (inc : Int)) ((b.q : Int) + 1) L (.old sent w9 f9)).length d2 none 0 0) ⟨_, none, 0, A2, c2, 9, HX11.out, rfl, rfl, HPO.out, hpm9, by omega, by have := phN_le HL17.out (.old sent w9 f9); omega⟩ ?_
        have HIB : Hid (2 ≤ 2 + (inc : Int) ∧ 2 + (inc : Int) ≤ 1000 ∧ 1 ≤ (b.q : Int) + 1 ∧ (b.q : Int) + 1 ≤ 1000000) := hid (by have := HQQ.out; omega)
        have hc9 : 0 ≤ ((b.c : Nat) : Int) ∧ ((b.c : Nat) : Int) ≤ 1000000 := by have := HI.out.1.h3; have := HI.out.na; omega
        clear HX11 HPO hpm9 z0 z1 z2 z3 z4 z5 z6 z7 z8 z9 z10 hbe hw1 hw2 HBB HXM HLN HNL HCV HWI hcv hwi HQQ HI
        rintro w12 hni
        have HNI := hid hni
        clear hni
        generalize (phW (2 + (inc : Int)) ((b.q : Int) + 1) L (.old sent w9 f9)).length = le0 at *
        generalize 2 + (inc : Int) = I at *
        generalize (b.q : Int) + 1 = q0 at *
        generalize mkP a b w = x0 at *
        have HC9 : Hid (0 ≤ ((b.c : Nat) : Int) ∧ ((b.c : Nat) : Int) ≤ 1000000) := hid hc9
        generalize ((b.c : Nat) : Int) = c9 at *
        clear hc9
        go_loopw [11, 12, 13] (fun V Gv i wr => ∃ (n le ce lg gc : Nat) (E G : Option Addr), n ≤ L.length + 11 ∧ V = .slice E le ce ∧ Gv = .slice G lg gc ∧ i = .int .i64 (n : Int) ∧ Hid (NI W wr g x0 I q0 c9 L D1 cd T7 c7 n 0 E le ce G lg gc)) (fun _ _ i _ => (intOf i).toNat)
        case atStart => exact ⟨_, _, _, _, _, _, _, Nat.le_refl _, rfl, rfl, rfl, HNI⟩
        case round =>
          obtain ⟨n, le, ce, lg, gc, E, G, hn, rfl, rfl, rfl, HNI⟩ := hrel
          rcases Nat.eq_zero_or_pos n with rfl | hn0
          · skip
            obtain ⟨ph, A, ca, B, cb, m, hx, rfl, rfl, hpo, hpm, hmn, _⟩ := HNI.out
            obtain rfl : m = 0 := by omega
            have hpf := ph_end (I := I) (q := q0) hpo hpm
            subst hpf
            rw [show (phG L Ph.fin).length = L.length from rfl]
            have hgx := hx.hg
            simp only [prc, mkN, phA, phB, aN, bN, List.length_nil] at hgx
            have hb16 := (pair_cells hgx).1.2.2.2.2.2.2.2.2.2.2.2.2.2.2.2.2.1
            have HSM := hid (same03 G T7 L.length gc L.length c7 L L wr (sl_own hx.hG) hx.hT.sl (by have := HL17.out; omega) (by have := HL17.out; omega))
            have HB := hid hx.hb
            have hLL : (L == L) = true := by simp
            clear hgx hx hpo hpm hmn HNI
            go_wp2_with fail
            refine HSM.out.mono ?_
            rintro e w5 ⟨rfl, q5, rfl⟩
            rw [hLL]
            have HB5 := hid (below_drewN HB.out q5)
            go_wp2_with fail
            refine (works26_any _).mono ?_
            rintro e w6 ⟨rfl, hb6⟩
            have HB6 := hid (HB5.out.trans (hb6.mono HB5.out.size))
            clear hb6
            go_wp2
            go_ret
            exact ⟨rfl, HB6.out⟩
          · obtain ⟨n, rfl⟩ : ∃ n', n = n' + 1 := ⟨n - 1, by omega⟩
            have e1 : decide ((0 : Int) < ((n + 1 : Nat) : Int)) = true := decide_eq_true (by omega)
            have e2 : (0 : Int) < ((n + 1 : Nat) : Int) := by omega
            clear hn0
            go_wp2
            go_loopw [11, 12, 14] (fun V Gv i wr => ∃ (k le ce lg gc : Nat) (E G : Option Addr), k ≤ 3000 ∧ V = .slice E le ce ∧ Gv = .slice G lg gc ∧ i = .int .i64 (k : Int) ∧ Hid (NI W wr g x0 I q0 c9 L D1 cd T7 c7 (n + 1) k E le ce G lg gc)) (fun _ _ i _ => 4000 - (intOf i).toNat)
            case atStart => exact ⟨0, _, _, _, _, _, _, by omega, rfl, rfl, rfl, HNI⟩
            case round =>
              obtain ⟨k, le, ce, lg, gc, E, G, hk, rfl, rfl, rfl, HC⟩ := hrel
              have k1 : (k : Int) < 4000 := by omega
              obtain ⟨ph, A, ca, B, cb, m, hx, rfl, rfl, hpo, hpm, hmn, hk3⟩ := HC.out
              clear HC HNI
              cases hw : phW I q0 L ph with
              | nil =>
                rw [hw] at hx
                have hm1 : ∃ m', m' ≤ n ∧ phM (m' + 1) ph := by
                  cases m with
                  | zero =>
                    have hpf := ph_end (I := I) (q := q0) hpo hpm
                    subst hpf
                    exact ⟨0, Nat.zero_le _, trivial⟩
                  | succ m => exact ⟨m, by omega, hpm⟩
                obtain ⟨m', hm', hpm'⟩ := hm1
                have ht := ph_tick (c := c9) HLO.out hpo hw hpm'
                have HTK := ltick_any (phB I q0 c9 L ph) B cb wr (sl_own hx.hB) (phB_pre I q0 c9 HIB.out.2.2.1 HIB.out.2.2.2 L ph hpo HL17.out HC9.out.1 HC9.out.2).1
                rw [ht.2.2.1, show phB I q0 c9 L ph = (mkN x0 I q0 c9 L ph).b from rfl] at HTK
                replace HTK := hid HTK
                have HTL : Hid ((phW I q0 L (phT L ph)).length ≤ 2) := hid (by have := tikE_len (phB I q0 c9 L ph); rw [ht.2.2.1] at this; simp only at this; omega)
                have HXS : Hid (setPB (mkN x0 I q0 c9 L ph) (phB I q0 c9 L (phT L ph)) = mkN x0 I q0 c9 L (phT L ph)) := hid (by simp only [setPB, mkN, ht.2.2.2.1])
                have HGE := hid ht.2.2.2.2
                have HOK := hid (And.intro ht.1 (And.intro ht.2.1 hm'))
                have hgx := hx.hg
                have HX := hid hx
                clear hw ht hm' hpm' hpm hmn hk3 hpo hx
                generalize mkN x0 I q0 c9 L ph = x at *
                generalize phB I q0 c9 L (phT L ph) = ea at *
                obtain ⟨f2, t2, i2, ⟨p2, q2, l2, w2', fl2⟩, m2, gp2, gl2⟩ := ea
                generalize hll : phW I q0 L (phT L ph) = l at *
                have HWL := hid hll
                generalize phG L ph = gl at *
                simp only [ec] at HTK
                simp only [prc] at hgx
                obtain ⟨⟨cp0, cp1, cp2, cp3, cp4, cp5, cp6, cp7, cp8, cp9, cp10, cp11, cp12, cp13, cp14, cp15, cp16, cp17, cp18, cp19, cp20, cp21, cp22, cp23, cp24, cp25, cp26, cp27⟩, _⟩ := pair_cells hgx
                rw [show ([] : List Pk).length = 0 from rfl]
                clear hll hgx
                go_wp2_with fail
                refine HTK.out.mono ?_
                rintro e w2 ⟨A2, c2, B2, d2, rfl, ho2, hP2, g2⟩
                simp only [ec]
                have hfr : ∀ j, (Value.slice A2 l2.length c2).ownBlock = some j → wr.heap.size ≤ j := fun j hj => own_blk_ge ho2 j hj
                have hdd : ∀ j, (Value.slice G gl.length gc).ownBlock = some j → (Value.slice A2 l2.length c2).ownBlock ≠ some j := fun j hj h9 => by
                  have q1 := (HX.out.hG.lt j hj).2
                  have q2 := hfr j h9
                  omega
                have HDD := hid hdd
                have HX2 := hid (HX.out.keep g2)
                have HO2 := hid (own_mono ho2 HX.out.hb.size)
                have HP2 := hid (own_mono hP2 HX.out.hb.size)
                clear cp0 cp1 cp2 cp3 cp4 cp5 cp6 cp7 cp8 cp9 cp10 cp11 cp12 cp13 cp14 cp15 cp16 cp17 cp18 cp19 cp20 cp21 cp22 cp23 cp24 cp25 cp26 cp27 ho2 hP2 g2 HTK hfr hdd HX
                go_upto_region 39 with (fail)
                refine at_world (fun u => u.heap[w2.heap.size]? = some (.cells (ec ⟨f2, t2, i2, ⟨p2, q2, l2, w2', fl2⟩, m2, gp2, gl2⟩ A2 c2) 54 (0, 0)) ∧ NX W u g x A ca B cb D1 cd E ce [] G gc gl T7 c7 L ∧ u.ownsRow W.heap.size 9 1 (.slice A2 l2.length c2) l2.length (scells l2) ∧ OwnP W u (.slice B2 l.length d2) l) ⟨heap_alloc_new _ _, HX2.out.keep ((Below.refl _ _).alloc (Nat.le_refl _) _), own_keep HO2.out ((Below.refl _ _).alloc (Nat.le_refl _) _), own_keep HP2.out ((Below.refl _ _).alloc (Nat.le_refl _) _)⟩ ?_
                clear HX2 HO2 HP2
                generalize w2.heap.size = Zb at *
                rintro w3 ⟨ht3, hx3, ho3, hP3⟩
                obtain ⟨⟨zq0, zq1, zq2, zq3, zq4, zq5, zq6, zq7, zq8, zq9, zq10⟩, _⟩ := eleven_cells ht3
                have hg3 := hx3.hg
                simp only [prc] at hg3
                obtain ⟨_, ⟨cg0, cg1, cg2, cg3, cg4, cg5, cg6, cg7, cg8, cg9, cg10, cg11, cg12, cg13, cg14, cg15, cg16, cg17, cg18, cg19, cg20, cg21, cg22, cg23, cg24, cg25, cg26, cg27⟩⟩ := pair_cells hg3
                have HS := hid (hx3.setB (e := ⟨f2, t2, i2, ⟨p2, q2, l2, w2', fl2⟩, m2, gp2, gl2⟩) (R := A2) (rc := c2) ho3 HDD.out)
                have HP3 := hid (own_at hP3 hx3.hg (by decide) fun j hj => putB_other hj (.int .i64 f2) (.int .i64 t2) (.int .i64 i2) (.int .i64 p2) (.int .i64 q2) (.slice A2 l2.length c2) (.int .i64 w2') (.int .i64 fl2) (.int .i64 m2) (.int .i64 gp2) (.int .i64 gl2))
                clear ht3 hx3 ho3 hP3 hg3
                go_upto_region 40 with (fail)
                refine at_world (fun u => NX W u g (setPB x ⟨f2, t2, i2, ⟨p2, q2, l2, w2', fl2⟩, m2, gp2, gl2⟩) A ca A2 c2 D1 cd E ce [] G gc gl T7 c7 L ∧ OwnP W u (.slice B2 l.length d2) l) ⟨HS.out, HP3.out⟩ ?_
                clear zq0 zq1 zq2 zq3 zq4 zq5 zq6 zq7 zq8 zq9 zq10 cg0 cg1 cg2 cg3 cg4 cg5 cg6 cg7 cg8 cg9 cg10 cg11 cg12 cg13 cg14 cg15 cg16 cg17 cg18 cg19 cg20 cg21 cg22 cg23 cg24 cg25 cg26 cg27 HS HP3 HDD
                rintro w5 ⟨hx5, hP5⟩
                have HX5 := hid hx5
                have hsl5 := sl_own hP5
                have htl : l.length ≤ 2 := HTL.out
                have hbe := hx5.hb.size
                clear hx5 hP5
                go_wp2_with (at_builtin; refine wpList_append_slk rfl (.tmp 170) (.tmp 171) 56 rfl W.heap.size 71 Try.underlying56 info_pkt rfl (by omega) rfl HX5.out.hE rfl hsl5 (pkc_one _) (by show 0 + _ ≤ _; unfold maxLen; omega) (by show (0 + _) * 64 ≤ _; omega) hbe ?_)
                intro v6 w6 ho6 hb6 hsz6 hk6
                obtain ⟨E6, e6, rfl, _⟩ := Mid.form ho6
                have HF := hid (HX5.out.app (l := l) (E' := E6) (ce' := e6) (by simpa using ho6) hb6 hk6)
                clear ho6 hb6 hsz6 hk6 HX5 hsl5
                go_wp2
                go_roundw
                case rel =>
                  refine ⟨n, l.length, e6, gl.length, gc, E6, G, by omega, rfl, rfl, by go_num, hid ⟨phT L ph, A, ca, A2, c2, m', ?_, by rw [HWL.out], by rw [HGE.out], HOK.out.1, HOK.out.2.1, HOK.out.2.2, by have := phN_le HL17.out (phT L ph); omega⟩⟩
                  have h9 := HF.out
                  rw [HXS.out] at h9
                  rw [HWL.out, HGE.out]
                  simpa using h9
                case measure => simp [intOf]
              | cons p r =>
                have hco0 := ph_come (c := c9) HIB.out.1 HIB.out.2.1 HIB.out.2.2.1 HIB.out.2.2.2 HLO.out hpo hw
                have hr0 := hco0.1
                subst hr0
                have hco := hco0.2
                clear hco0
                rw [hw] at hx
                have e3 : (0 : Int) < (1 : Int) := by omega
                obtain ⟨bD, oD, rfl, hcD⟩ := Sl.gat pkc_len (Mid.sl hx.hE) 0 (Nat.succ_pos _) (by decide)
                have c0 := hcD 0 _ rfl
                have c1 := hcD 1 _ rfl
                have c2 := hcD 2 _ rfl
                have c3 := hcD 3 _ rfl
                have c4 := hcD 4 _ rfl
                have c5 := hcD 5 _ rfl
                have c6 := hcD 6 _ rfl
                simp only [List.getElem_cons_zero, Nat.zero_mul, Nat.add_zero] at c0 c1 c2 c3 c4 c5 c6
                have HX := hid hx
                rw [show (p :: ([] : List Pk)).length = 1 from rfl]
                have HPN := hid hk3
                have HPM := hid hpm
                have HMN := hid hmn
                have HPO := hid hpo
                have HGN : Hid ((phG L ph).length ≤ 1000) := hid (by have := phG_le L ph; have := HL17.out; omega)
                have HCO0 := hid hco
                clear hx hcD hw hk3 hpm hmn hpo hco
                go_upto_region 22 with (fail)
                refine at_world (fun u => u.heap[wr.heap.size]? = some (.cells (pca p) 71 (0, 0)) ∧ NX W u g (mkN x0 I q0 c9 L ph) A ca B cb D1 cd (some ⟨bD, oD, none⟩) ce [p] G gc (phG L ph) T7 c7 L) ⟨heap_alloc_new _ _, HX.out.keep ((Below.refl _ _).alloc (Nat.le_refl _) _)⟩ ?_
                clear HX c0 c1 c2 c3 c4 c5 c6
                generalize wr.heap.size = Pb at *
                rintro u1 ⟨hp1, hx⟩
                have hx1 := hx.tail
                have hce := (Mid.sl hx.hE).2.1
                clear hx
                have hrun : ∀ w : World, (Instr.slice 56 (.slice (some ⟨bD, oD, none⟩) 1 ce) (some (.int .i64 1)) none none).run Try.prog w = .ok (.slice (dropA (some ⟨bD, oD, none⟩) ce 1 7) 0 (ce - 1)) w := fun w => run_from Try.underlying56 info_pkt (some ⟨bD, oD, none⟩) 1 ce 1 (by omega) w
                generalize hE1 : dropA (some ⟨bD, oD, none⟩) ce 1 7 = E1 at *
                generalize hc1 : ce - 1 = ce1 at *
                clear hE1 hc1 hce
                have hco := HCO0.out
                clear HCO0
                have HES := hid hco.2.2.1
                have HOK := hid (And.intro hco.1 (And.intro hco.2.1 hco.2.2.1))
                obtain ⟨hps, hco⟩ := hco.2.2.2
                generalize hgl0 : phG L ph = gl at *
                generalize hxx : mkN x0 I q0 c9 L ph = x at *
                have HGL := hid hgl0
                have HXX := hid hxx
                have HTLA := hid (takV_len (phA I L ph) p)
                have HTLB := hid (takV_len (phB I q0 c9 L ph) p)
                have HLA := hid (phA_pre I L ph HPO.out HL17.out)
                have HLB := hid (phB_pre I q0 c9 HIB.out.2.2.1 HIB.out.2.2.2 L ph HPO.out HL17.out HC9.out.1 HC9.out.2)
                obtain ⟨pk, pf, pt, pi, pp, ps, pb⟩ := p
                simp only [pca] at hp1
                simp only at hps hco
                have hy := (seven_cells hp1).1
                obtain ⟨y0, y1, y2, y3, y4, y5, y6⟩ := hy
                clear hgl0 hxx
                rcases hco with ⟨rfl, hphb, tx, got, htk, hgf, hgt⟩ | ⟨rfl, hpha, hgb, tx, htk⟩
                case inl =>
                  have HGF := hid hgf
                  have HGT := hid hgt
                  have HLN : Hid ((phA I L (phS L ph)).o.l = []) := hid (phA_l I L _)
                  have HTL0 := HTLA.out
                  rw [htk] at HTL0
                  have hxa : phA I L ph = x.a := by rw [← HXX.out]; rfl
                  have HTK := fun w (h : NX W w g x A ca B cb D1 cd E1 ce1 [] G gc gl T7 c7 L) => ltake_any (phA I L ph) ⟨pk, pf, 0, pi, pp, ps, pb⟩ A ca w (sl_empty (phA_l I L ph) h.ac) (len_empty (phA_l I L ph)) HLA.out.1 HLA.out.2.1 hps.1 hps.2 HLA.out.2.2.1 HLA.out.2.2.2
                  rw [htk, hxa] at HTK
                  replace HTK := hid HTK
                  clear hxa
                  have HXS : Hid (setPA x (phA I L (phS L ph)) = mkN x0 I q0 c9 L (phS L ph)) := hid (by rw [← HXX.out]; simp only [setPA, mkN, hphb])
                  generalize phA I L (phS L ph) = ea at *
                  obtain ⟨f2, t2, i2, ⟨p2, q2, l2, w2', fl2⟩, m2, gp2, gl2⟩ := ea
                  generalize hll : phW I q0 L (phS L ph) = l at *
                  have HTL : Hid (l.length ≤ 2) := hid HTL0
                  have HWL := hid hll
                  simp only [ec, pca] at HTK
                  clear hgf hgt hphb htk HTL0 hll hps
                  have hg := hx1.hg
                  have hS : ∀ U, Below u1.heap.size u1 U → (((U.cell? ⟨g, 0, none⟩ = some (.int .i64 x.a.f) ∧ U.cell? ⟨g, 1, none⟩ = some (.int .i64 x.a.t) ∧ U.cell? ⟨g, 2, none⟩ = some (.int .i64 x.a.i) ∧ U.cell? ⟨g, 3, none⟩ = some (.int .i64 x.a.o.p) ∧ U.cell? ⟨g, 4, none⟩ = some (.int .i64 x.a.o.q) ∧ U.cell? ⟨g, 5, none⟩ = some (.slice A x.a.o.l.length ca) ∧ U.cell? ⟨g, 6, none⟩ = some (.int .i64 x.a.o.w) ∧ U.cell? ⟨g, 7, none⟩ = some (.int .i64 x.a.o.f) ∧ U.cell? ⟨g, 8, none⟩ = some (.int .i64 x.a.m) ∧ U.cell? ⟨g, 9, none⟩ = some (.int .i64 x.a.p) ∧ U.cell? ⟨g, 10, none⟩ = some (.int .i64 x.a.l)) ∧ U.cell? ⟨Pb, 0, none⟩ = some (.int .i64 pk) ∧ U.cell? ⟨Pb, 1, none⟩ = some (.int .i64 pf) ∧ U.cell? ⟨Pb, 2, none⟩ = some (.int .i64 0) ∧ U.cell? ⟨Pb, 3, none⟩ = some (.int .i64 pi) ∧ U.cell? ⟨Pb, 4, none⟩ = some (.int .i64 pp) ∧ U.cell? ⟨Pb, 5, none⟩ = some (.int .i64 ps) ∧ U.cell? ⟨Pb, 6, none⟩ = some (.string (str pb))) ∧ Below u1.heap.size u1 U) := fun U hU => by
                    have h9 := keep0 hg hU
                    simp only [prc] at h9
                    have h8 := (pair_cells h9).1
                    have h7 := (seven_cells (keep0 hp1 hU)).1
                    exact ⟨⟨⟨h8.1, h8.2.1, h8.2.2.1, h8.2.2.2.1, h8.2.2.2.2.1, h8.2.2.2.2.2.1, h8.2.2.2.2.2.2.1, h8.2.2.2.2.2.2.2.1, h8.2.2.2.2.2.2.2.2.1, h8.2.2.2.2.2.2.2.2.2.1, h8.2.2.2.2.2.2.2.2.2.2.1⟩, h7⟩, hU⟩
                  have HX := hid hx1
                  have HU := hid hx1.hb.size
                  have HP1 := hid hp1
                  clear hx1
                  go_upto_region 26 with (fail)
                  clear y0 y1 y2 y3 y4 y5 y6 hg hp1 hrun
                  have hk0 : Below u1.heap.size u1 u1.drew := below_drew (Below.refl _ _)
                  refine wp_region_held_drew (S := fun U => ((U.cell? ⟨g, 0, none⟩ = some (.int .i64 x.a.f) ∧ U.cell? ⟨g, 1, none⟩ = some (.int .i64 x.a.t) ∧ U.cell? ⟨g, 2, none⟩ = some (.int .i64 x.a.i) ∧ U.cell? ⟨g, 3, none⟩ = some (.int .i64 x.a.o.p) ∧ U.cell? ⟨g, 4, none⟩ = some (.int .i64 x.a.o.q) ∧ U.cell? ⟨g, 5, none⟩ = some (.slice A x.a.o.l.length ca) ∧ U.cell? ⟨g, 6, none⟩ = some (.int .i64 x.a.o.w) ∧ U.cell? ⟨g, 7, none⟩ = some (.int .i64 x.a.o.f) ∧ U.cell? ⟨g, 8, none⟩ = some (.int .i64 x.a.m) ∧ U.cell? ⟨g, 9, none⟩ = some (.int .i64 x.a.p) ∧ U.cell? ⟨g, 10, none⟩ = some (.int .i64 x.a.l)) ∧ U.cell? ⟨Pb, 0, none⟩ = some (.int .i64 pk) ∧ U.cell? ⟨Pb, 1, none⟩ = some (.int .i64 pf) ∧ U.cell? ⟨Pb, 2, none⟩ = some (.int .i64 0) ∧ U.cell? ⟨Pb, 3, none⟩ = some (.int .i64 pi) ∧ U.cell? ⟨Pb, 4, none⟩ = some (.int .i64 pp) ∧ U.cell? ⟨Pb, 5, none⟩ = some (.int .i64 ps) ∧ U.cell? ⟨Pb, 6, none⟩ = some (.string (str pb))) ∧ Below u1.heap.size u1 U) (by kernel_rfl) (hS _ hk0) (fun hHeld => ?_)
                  generalize u1.drew = k0 at *
                  refine wpAnyH_take (i := 0) (v := ?_) rfl (by kernel_rfl) (by kernel_rfl) (by kernel_rfl) (fun _ _ _ h => h) (Or.inl ⟨by rfl, ?_⟩) (by assumption) ?_
                  rotate_left
                  focus
                    intro U hU
                    try dsimp only at hU
                    go_simp
                    try (with_reducible rfl)
                  simp only [List.getElem_toArray, List.getElem_cons_succ, List.getElem_cons_zero, Act.put, List.setIfInBounds_toArray, List.set_cons_zero, List.set_cons_succ]
                  refine wpAnyH_take (i := 1) (v := ?_) rfl (by kernel_rfl) (by kernel_rfl) (by kernel_rfl) (fun _ _ _ h => h) (Or.inl ⟨by rfl, ?_⟩) (by assumption) ?_
                  rotate_left
                  focus
                    intro U hU
                    try dsimp only at hU
                    go_simp
                    try (with_reducible rfl)
                  simp only [List.getElem_toArray, List.getElem_cons_succ, List.getElem_cons_zero, Act.put, List.setIfInBounds_toArray, List.set_cons_zero, List.set_cons_succ]
                  refine wpAnyH_take (i := 2) (v := ?_) rfl (by kernel_rfl) (by kernel_rfl) (by kernel_rfl) (fun _ _ _ h => h) (Or.inl ⟨by rfl, ?_⟩) (by assumption) ?_
                  rotate_left
                  focus
                    intro U hU
                    try dsimp only at hU
                    go_simp
                    try (with_reducible rfl)
                  simp only [List.getElem_toArray, List.getElem_cons_succ, List.getElem_cons_zero, Act.put, List.setIfInBounds_toArray, List.set_cons_zero, List.set_cons_succ]
                  refine wpAnyH_take (i := 3) (v := ?_) rfl (by kernel_rfl) (by kernel_rfl) (by kernel_rfl) (fun _ _ _ h => h) (Or.inl ⟨by rfl, ?_⟩) (by assumption) ?_
                  rotate_left
                  focus
                    intro U hU
                    try dsimp only at hU
                    go_simp
                    try (with_reducible rfl)
                  simp only [List.getElem_toArray, List.getElem_cons_succ, List.getElem_cons_zero, Act.put, List.setIfInBounds_toArray, List.set_cons_zero, List.set_cons_succ]
                  refine wpAnyH_take (i := 4) (v := ?_) rfl (by kernel_rfl) (by kernel_rfl) (by kernel_rfl) (fun _ _ _ h => h) (Or.inl ⟨by rfl, ?_⟩) (by assumption) ?_
                  rotate_left
                  focus
                    intro U hU
                    try dsimp only at hU
                    go_simp
                    try (with_reducible rfl)
                  simp only [List.getElem_toArray, List.getElem_cons_succ, List.getElem_cons_zero, Act.put, List.setIfInBounds_toArray, List.set_cons_zero, List.set_cons_succ]
                  refine wpAnyH_ready (rs := [5, 11]) (by kernel_rfl) (by simp) ?_
                  refine (AllReadyH.cons rfl (fun K hK => ?_) (AllReadyH.cons rfl (fun K hK => ?_) AllReadyH.nil))
                  · skip
                    simp only [List.getElem_toArray, List.getElem_cons_succ, List.getElem_cons_zero]
                    go_simp
                    refine (HTK.out _ (HX.out.keep hk0)).mono ?_
                    rintro e u2 ⟨A2, c2, B2, d2, rfl, ho2, hP2, g2⟩
                    simp only [ec]
                    have hk2 := hk0.trans (g2.mono hk0.size)
                    have hfr : ∀ j, (Value.slice A2 l2.length c2).ownBlock = some j → u1.heap.size ≤ j := fun j hj => Nat.le_trans hk0.size (own_blk_ge ho2 j hj)
                    have ho3 := own_mono ho2 (Nat.le_trans HU.out hk0.size)
                    have hP3 := own_mono hP2 (Nat.le_trans HU.out hk0.size)
                    clear g2 ho2 hP2
                    go_wp2_with fail
                    refine hK.out _ _ ?_ (fun hHeld2 => ?_)
                    focus
                      exact hS _ hk2
                    clear hHeld
                    have hHeld := hHeld2
                    clear hHeld2 hK K
                    try simp only [List.getElem_toArray, List.getElem_cons_succ, List.getElem_cons_zero, Act.put, List.setIfInBounds_toArray, List.set_cons_zero, List.set_cons_succ]
                    refine wpAnyH_take (i := 6) (v := ?_) rfl (by kernel_rfl) (by kernel_rfl) (by kernel_rfl) (fun _ _ _ h => h) (Or.inl ⟨by rfl, ?_⟩) (by assumption) ?_
                    rotate_left
                    focus
                      intro U hU
                      try dsimp only at hU
                      go_simp
                      try (with_reducible rfl)
                    simp only [List.getElem_toArray, List.getElem_cons_succ, List.getElem_cons_zero, Act.put, List.setIfInBounds_toArray, List.set_cons_zero, List.set_cons_succ]
                    refine wpAnyH_take (i := 7) (v := ?_) rfl (by kernel_rfl) (by kernel_rfl) (by kernel_rfl) (fun _ _ _ h => h) (Or.inl ⟨by rfl, ?_⟩) (by assumption) ?_
                    rotate_left
                    focus
                      intro U hU
                      try dsimp only at hU
                      go_simp
                      try (with_reducible rfl)
                    simp only [List.getElem_toArray, List.getElem_cons_succ, List.getElem_cons_zero, Act.put, List.setIfInBounds_toArray, List.set_cons_zero, List.set_cons_succ]
                    refine wpAnyH_take (i := 8) (v := ?_) rfl (by kernel_rfl) (by kernel_rfl) (by kernel_rfl) (fun _ _ _ h => h) (Or.inl ⟨by rfl, ?_⟩) (by assumption) ?_
                    rotate_left
                    focus
                      intro U hU
                      try dsimp only at hU
                      go_simp
                      try (with_reducible rfl)
                    simp only [List.getElem_toArray, List.getElem_cons_succ, List.getElem_cons_zero, Act.put, List.setIfInBounds_toArray, List.set_cons_zero, List.set_cons_succ]
                    refine wpAnyH_take (i := 9) (v := ?_) rfl (by kernel_rfl) (by kernel_rfl) (by kernel_rfl) (fun _ _ _ h => h) (Or.inl ⟨by rfl, ?_⟩) (by assumption) ?_
                    rotate_left
                    focus
                      intro U hU
                      try dsimp only at hU
                      go_simp
                      try (with_reducible rfl)
                    simp only [List.getElem_toArray, List.getElem_cons_succ, List.getElem_cons_zero, Act.put, List.setIfInBounds_toArray, List.set_cons_zero, List.set_cons_succ]
                    refine wpAnyH_take (i := 10) (v := ?_) rfl (by kernel_rfl) (by kernel_rfl) (by kernel_rfl) (fun _ _ _ h => h) (Or.inl ⟨by rfl, ?_⟩) (by assumption) ?_
                    rotate_left
                    focus
                      intro U hU
                      try dsimp only at hU
                      go_simp
                      try (with_reducible rfl)
                    simp only [List.getElem_toArray, List.getElem_cons_succ, List.getElem_cons_zero, Act.put, List.setIfInBounds_toArray, List.set_cons_zero, List.set_cons_succ]
                    refine wpAnyH_ready (rs := [11]) (by kernel_rfl) (by simp) ?_
                    refine (AllReadyH.cons rfl (fun K hK => ?_) AllReadyH.nil)
                    simp only [List.getElem_toArray, List.getElem_cons_succ, List.getElem_cons_zero]
                    go_simp
                    refine hK.out _ _ ?_ (fun hHeld2 => ?_)
                    focus
                      exact hS _ (hk2.alloc hk2.size _)
                    clear hHeld
                    have hHeld := hHeld2
                    clear hHeld2 hK K
                    try simp only [List.getElem_toArray, List.getElem_cons_succ, List.getElem_cons_zero, Act.put, List.setIfInBounds_toArray, List.set_cons_zero, List.set_cons_succ]
                    have hbn : Below (World.heap u2).size u2 (World.alloc u2 (.cells #[.int .i64 0, .int .i64 0, .int .i64 0, .int .i64 0, .int .i64 0, .slice none 0 0, .int .i64 0, .int .i64 0, .int .i64 0, .int .i64 0, .int .i64 0] 54)) := (Below.refl _ _).alloc (Nat.le_refl _) _
                    have hk3 := hk2.trans (hbn.mono hk2.size)
                    have hz3 := heap_alloc_new u2 (.cells #[.int .i64 0, .int .i64 0, .int .i64 0, .int .i64 0, .int .i64 0, .slice none 0 0, .int .i64 0, .int .i64 0, .int .i64 0, .int .i64 0, .int .i64 0] 54)
                    have hle : u1.heap.size ≤ (World.heap u2).size := hk2.size
                    have ho4 := own_keep ho3 hbn
                    have hP4 := own_keep hP3 hbn
                    clear hbn
                    generalize World.alloc u2 (.cells #[.int .i64 0, .int .i64 0, .int .i64 0, .int .i64 0, .int .i64 0, .slice none 0 0, .int .i64 0, .int .i64 0, .int .i64 0, .int .i64 0, .int .i64 0] 54) = k9 at *
                    generalize (World.heap u2).size = Zb at *
                    have hxv := HX.out.keep hk3
                    have hk4b := put11_below hxv.hb (Nat.le_trans HU.out hle) (.int .i64 f2) (.int .i64 t2) (.int .i64 i2) (.int .i64 p2) (.int .i64 q2) (.slice A2 l2.length c2) (.int .i64 w2') (.int .i64 fl2) (.int .i64 m2) (.int .i64 gp2) (.int .i64 gl2)
                    have hxw := hxv.other hz3 (fun j hj => put11_other (b := Zb) hj (.int .i64 f2) (.int .i64 t2) (.int .i64 i2) (.int .i64 p2) (.int .i64 q2) (.slice A2 l2.length c2) (.int .i64 w2') (.int .i64 fl2) (.int .i64 m2) (.int .i64 gp2) (.int .i64 gl2)) hk4b
                    have hk4 := put11_below hk3 hle (.int .i64 f2) (.int .i64 t2) (.int .i64 i2) (.int .i64 p2) (.int .i64 q2) (.slice A2 l2.length c2) (.int .i64 w2') (.int .i64 fl2) (.int .i64 m2) (.int .i64 gp2) (.int .i64 gl2)
                    have hzw := put11_heap hz3 (.int .i64 f2) (.int .i64 t2) (.int .i64 i2) (.int .i64 p2) (.int .i64 q2) (.slice A2 l2.length c2) (.int .i64 w2') (.int .i64 fl2) (.int .i64 m2) (.int .i64 gp2) (.int .i64 gl2)
                    have how := own_at ho4 hz3 (by decide) fun g hg => put11_other (b := Zb) hg (.int .i64 f2) (.int .i64 t2) (.int .i64 i2) (.int .i64 p2) (.int .i64 q2) (.slice A2 l2.length c2) (.int .i64 w2') (.int .i64 fl2) (.int .i64 m2) (.int .i64 gp2) (.int .i64 gl2)
                    have hPw := own_at hP4 hz3 (by decide) fun g hg => put11_other (b := Zb) hg (.int .i64 f2) (.int .i64 t2) (.int .i64 i2) (.int .i64 p2) (.int .i64 q2) (.slice A2 l2.length c2) (.int .i64 w2') (.int .i64 fl2) (.int .i64 m2) (.int .i64 gp2) (.int .i64 gl2)
                    obtain ⟨_, ⟨zf0, zf1, zf2, zf3, zf4, zf5, zf6, zf7, zf8, zf9, zf10⟩⟩ := eleven_cells hz3
                    simp only [put11] at hk4 hxw hzw how hPw
                    clear hxv hk4b
                    refine wpAnyH_ready (rs := [12]) (by kernel_rfl) (by simp) ?_
                    refine AllReadyH.cons rfl (fun K hK => ?_) AllReadyH.nil
                    simp only [List.getElem_toArray, List.getElem_cons_succ, List.getElem_cons_zero]
                    go_simp
                    refine hK.out _ _ ?_ (fun hHeld2 => ?_)
                    focus
                      exact hS _ hk4
                    clear hHeld
                    have hHeld := hHeld2
                    clear hHeld2 hK K
                    try simp only [List.getElem_toArray, List.getElem_cons_succ, List.getElem_cons_zero, Act.put, List.setIfInBounds_toArray, List.set_cons_zero, List.set_cons_succ]
                    refine wpAnyH_take (i := 13) (v := ?_) rfl (by kernel_rfl) (by kernel_rfl) (by kernel_rfl) (fun _ _ _ h => h) (Or.inl ⟨by rfl, ?_⟩) (by assumption) ?_
                    rotate_left
                    focus
                      intro U hU
                      try dsimp only at hU
                      go_simp
                      try (with_reducible rfl)
                    simp only [List.getElem_toArray, List.getElem_cons_succ, List.getElem_cons_zero, Act.put, List.setIfInBounds_toArray, List.set_cons_zero, List.set_cons_succ]
                    refine wpAnyH_take (i := 14) (v := ?_) rfl (by kernel_rfl) (by kernel_rfl) (by kernel_rfl) (fun _ _ _ h => h) (Or.inl ⟨by rfl, ?_⟩) (by assumption) ?_
                    rotate_left
                    focus
                      intro U hU
                      try dsimp only at hU
                      go_simp
                      try (with_reducible rfl)
                    simp only [List.getElem_toArray, List.getElem_cons_succ, List.getElem_cons_zero, Act.put, List.setIfInBounds_toArray, List.set_cons_zero, List.set_cons_succ]
                    refine wpAnyH_take (i := 15) (v := ?_) rfl (by kernel_rfl) (by kernel_rfl) (by kernel_rfl) (fun _ _ _ h => h) (Or.inl ⟨by rfl, ?_⟩) (by assumption) ?_
                    rotate_left
                    focus
                      intro U hU
                      try dsimp only at hU
                      go_simp
                      try (with_reducible rfl)
                    simp only [List.getElem_toArray, List.getElem_cons_succ, List.getElem_cons_zero, Act.put, List.setIfInBounds_toArray, List.set_cons_zero, List.set_cons_succ]
                    refine wpAnyH_done (by kernel_rfl) ?_ _
                    clear hHeld hS zf0 zf1 zf2 zf3 zf4 zf5 zf6 zf7 zf8 zf9 zf10
                    go_upto_region 27 with (fail)
                    refine at_world (fun v => v.heap[Zb]? = some (.cells (ec ⟨f2, t2, i2, ⟨p2, q2, l2, w2', fl2⟩, m2, gp2, gl2⟩ A2 c2) 54 (0, 0)) ∧ NX W v g x A ca B cb D1 cd E1 ce1 ([] : List Pk) G gc gl T7 c7 L ∧ v.ownsRow W.heap.size 9 1 (.slice A2 l2.length c2) l2.length (scells l2) ∧ OwnP W v (.slice B2 l.length d2) l) ⟨hzw, hxw, how, hPw⟩ ?_
                    clear hzw hxw how hPw hk4
                    rintro w3 ⟨ht3, hx3, ho3', hP3'⟩
                    have hdd : ∀ j, (Value.slice G gl.length gc).ownBlock = some j → (Value.slice A2 l2.length c2).ownBlock ≠ some j := fun j hj h9 => by
                      have q1 := (HX.out.hG.lt j hj).2
                      have q2 := hfr j h9
                      omega
                    obtain ⟨⟨zq0, zq1, zq2, zq3, zq4, zq5, zq6, zq7, zq8, zq9, zq10⟩, _⟩ := eleven_cells ht3
                    have hg3 := hx3.hg
                    simp only [prc] at hg3
                    obtain ⟨_, ⟨cg0, cg1, cg2, cg3, cg4, cg5, cg6, cg7, cg8, cg9, cg10, cg11, cg12, cg13, cg14, cg15, cg16, cg17, cg18, cg19, cg20, cg21, cg22, cg23, cg24, cg25, cg26, cg27⟩⟩ := pair_cells hg3
                    have HS := hid (hx3.setA (e := ⟨f2, t2, i2, ⟨p2, q2, l2, w2', fl2⟩, m2, gp2, gl2⟩) (R := A2) (rc := c2) HLN.out (sl_own ho3').2.2.1)
                    have HP3 := hid (own_at hP3' hx3.hg (by decide) fun j hj => putA_other hj (.int .i64 f2) (.int .i64 t2) (.int .i64 i2) (.int .i64 p2) (.int .i64 q2) (.slice A2 l2.length c2) (.int .i64 w2') (.int .i64 fl2) (.int .i64 m2) (.int .i64 gp2) (.int .i64 gl2))
                    clear ht3 hx3 ho3' hP3' hg3 hdd hfr HX
                    go_upto_region 28 with (fail)
                    refine at_world (fun u => NX W u g (setPA x ⟨f2, t2, i2, ⟨p2, q2, l2, w2', fl2⟩, m2, gp2, gl2⟩) A2 c2 B cb D1 cd E1 ce1 ([] : List Pk) G gc gl T7 c7 L ∧ OwnP W u (.slice B2 l.length d2) l) ⟨HS.out, HP3.out⟩ ?_
                    clear zq0 zq1 zq2 zq3 zq4 zq5 zq6 zq7 zq8 zq9 zq10 cg0 cg1 cg2 cg3 cg4 cg5 cg6 cg7 cg8 cg9 cg10 cg11 cg12 cg13 cg14 cg15 cg16 cg17 cg18 cg19 cg20 cg21 cg22 cg23 cg24 cg25 cg26 cg27 HS HP3
                    rintro w5 ⟨hx5, hP5⟩
                    cases got with
                    | false =>
                      have HGE : Hid (phG L (phS L ph) = gl) := hid (HGF.out rfl)
                      have HX5 := hid hx5
                      have hsl5 := sl_own hP5
                      have htl : l.length ≤ 2 := HTL.out
                      have hbe := hx5.hb.size
                      clear hx5 hP5
                      go_wp2_with (at_builtin; refine wpList_append_slk rfl (.tmp 154) (.tmp 155) 56 rfl W.heap.size 71 Try.underlying56 info_pkt rfl (by omega) rfl HX5.out.hE rfl hsl5 (pkc_one _) (by show 0 + _ ≤ _; unfold maxLen; omega) (by show (0 + _) * 64 ≤ _; omega) hbe ?_)
                      intro v6 w6 ho6 hb6 hsz6 hk6
                      obtain ⟨E6, e6, rfl, _⟩ := Mid.form ho6
                      have HF := hid (HX5.out.app (l := l) (E' := E6) (ce' := e6) (by simpa using ho6) hb6 hk6)
                      clear ho6 hb6 hsz6 hk6 HX5 hsl5
                      go_wp2
                      go_roundw
                      case rel =>
                        (repeat apply Exists.intro)
                        refine ⟨?_, rfl⟩
                        have q1 := HPN.out
                        refine ⟨k + 1, l.length, e6, gl.length, gc, E6, G, by omega, rfl, rfl, by go_num, hid ⟨phS L ph, A2, c2, B, cb, m, ?_, by rw [HWL.out], by rw [HGE.out], HOK.out.1, HOK.out.2.2 m HPM.out, HMN.out, by have := HOK.out.2.1; omega⟩⟩
                        have h9 := HF.out
                        rw [HXS.out] at h9
                        rw [HWL.out, HGE.out]
                        simpa using h9
                      case measure => simp [intOf]; omega
                    | true =>
                      obtain ⟨y, rfl, hgy⟩ := HGT.out rfl
                      have HGE : Hid (phG L (phS L ph) = gl ++ [y]) := hid hgy
                      have HX7 := hid hx5
                      have HP7 := hid hP5
                      have hbe := hx5.hb.size
                      have hgl9 : gl.length ≤ 1000 := HGN.out
                      clear hgy hx5 hP5
                      go_wp2_with (at_builtin; refine wpList_append_1w rfl (.tmp 150) (.tmp 152) 24 rfl W.heap.size 9 Try.underlying24 info_str9 rfl (by omega) rfl HX7.out.hG rfl rfl (by simp; rfl) (by unfold maxLen; omega) (by omega) hbe (Below.refl _ _) ?_)
                      intro v7 w7 ho7 hb7 hsz7 hk7 hw7
                      obtain ⟨G7, c7', rfl, _⟩ := Sl.of_own ho7
                      have hx5 := HX7.out.push (y := y) ho7 hb7 hk7 hw7
                      have hP5 := own_other HP7.out HX7.out.hG (by decide) hk7
                      clear ho7 hb7 hsz7 hk7 hw7 HX7 HP7
                      have hgl1 : (gl ++ [y]).length = gl.length + 1 := by simp
                      have HX5 := hid hx5
                      have hsl5 := sl_own hP5
                      have htl : l.length ≤ 2 := HTL.out
                      have hbe := hx5.hb.size
                      clear hx5 hP5
                      go_wp2_with (at_builtin; refine wpList_append_slk rfl (.tmp 154) (.tmp 155) 56 rfl W.heap.size 71 Try.underlying56 info_pkt rfl (by omega) rfl HX5.out.hE rfl hsl5 (pkc_one _) (by show 0 + _ ≤ _; unfold maxLen; omega) (by show (0 + _) * 64 ≤ _; omega) hbe ?_)
                      intro v6 w6 ho6 hb6 hsz6 hk6
                      obtain ⟨E6, e6, rfl, _⟩ := Mid.form ho6
                      have HF := hid (HX5.out.app (l := l) (E' := E6) (ce' := e6) (by simpa using ho6) hb6 hk6)
                      clear ho6 hb6 hsz6 hk6 HX5 hsl5
                      go_wp2
                      go_roundw
                      case rel =>
                        (repeat apply Exists.intro)
                        refine ⟨?_, rfl⟩
                        have q1 := HPN.out
                        refine ⟨k + 1, l.length, e6, gl.length + 1, c7', E6, G7, by omega, rfl, rfl, by go_num, hid ⟨phS L ph, A2, c2, B, cb, m, ?_, by rw [HWL.out], by rw [HGE.out]; simp, HOK.out.1, HOK.out.2.2 m HPM.out, HMN.out, by have := HOK.out.2.1; omega⟩⟩
                        have h9 := HF.out
                        rw [HXS.out] at h9
                        rw [HWL.out, HGE.out]
                        simpa using h9
                      case measure => simp [intOf]; omega
                  · skip
                    simp only [List.getElem_toArray, List.getElem_cons_succ, List.getElem_cons_zero]
                    go_simp
                    refine hK.out _ _ ?_ (fun hHeld2 => ?_)
                    focus
                      exact hS _ (hk0.alloc hk0.size _)
                    clear hHeld
                    have hHeld := hHeld2
                    clear hHeld2 hK K
                    try simp only [List.getElem_toArray, List.getElem_cons_succ, List.getElem_cons_zero, Act.put, List.setIfInBounds_toArray, List.set_cons_zero, List.set_cons_succ]
                    have hbn : Below (World.heap k0).size k0 (World.alloc k0 (.cells #[.int .i64 0, .int .i64 0, .int .i64 0, .int .i64 0, .int .i64 0, .slice none 0 0, .int .i64 0, .int .i64 0, .int .i64 0, .int .i64 0, .int .i64 0] 54)) := (Below.refl _ _).alloc (Nat.le_refl _) _
                    have hk0b := hk0.trans (hbn.mono hk0.size)
                    have hz1 := heap_alloc_new k0 (.cells #[.int .i64 0, .int .i64 0, .int .i64 0, .int .i64 0, .int .i64 0, .slice none 0 0, .int .i64 0, .int .i64 0, .int .i64 0, .int .i64 0, .int .i64 0] 54)
                    have hle : u1.heap.size ≤ (World.heap k0).size := hk0.size
                    clear hbn
                    generalize World.alloc k0 (.cells #[.int .i64 0, .int .i64 0, .int .i64 0, .int .i64 0, .int .i64 0, .slice none 0 0, .int .i64 0, .int .i64 0, .int .i64 0, .int .i64 0, .int .i64 0] 54) = k9 at *
                    generalize (World.heap k0).size = Zb at *
                    refine wpAnyH_ready (rs := [5]) (by kernel_rfl) (by simp) ?_
                    refine (AllReadyH.cons rfl (fun K hK => ?_) AllReadyH.nil)
                    simp only [List.getElem_toArray, List.getElem_cons_succ, List.getElem_cons_zero]
                    go_simp
                    refine (HTK.out _ (HX.out.keep hk0b)).mono ?_
                    rintro e u2 ⟨A2, c2, B2, d2, rfl, ho2, hP2, g2⟩
                    simp only [ec]
                    have hk2 := hk0b.trans (g2.mono hk0b.size)
                    have hfr : ∀ j, (Value.slice A2 l2.length c2).ownBlock = some j → u1.heap.size ≤ j := fun j hj => Nat.le_trans hk0b.size (own_blk_ge ho2 j hj)
                    have ho3 := own_mono ho2 (Nat.le_trans HU.out hk0b.size)
                    have hP3 := own_mono hP2 (Nat.le_trans HU.out hk0b.size)
                    have hz3 := keep0 hz1 g2
                    clear g2 ho2 hP2
                    go_wp2_with fail
                    refine hK.out _ _ ?_ (fun hHeld2 => ?_)
                    focus
                      exact hS _ hk2
                    clear hHeld
                    have hHeld := hHeld2
                    clear hHeld2 hK K
                    try simp only [List.getElem_toArray, List.getElem_cons_succ, List.getElem_cons_zero, Act.put, List.setIfInBounds_toArray, List.set_cons_zero, List.set_cons_succ]
                    refine wpAnyH_take (i := 6) (v := ?_) rfl (by kernel_rfl) (by kernel_rfl) (by kernel_rfl) (fun _ _ _ h => h) (Or.inl ⟨by rfl, ?_⟩) (by assumption) ?_
                    rotate_left
                    focus
                      intro U hU
                      try dsimp only at hU
                      go_simp
                      try (with_reducible rfl)
                    simp only [List.getElem_toArray, List.getElem_cons_succ, List.getElem_cons_zero, Act.put, List.setIfInBounds_toArray, List.set_cons_zero, List.set_cons_succ]
                    refine wpAnyH_take (i := 7) (v := ?_) rfl (by kernel_rfl) (by kernel_rfl) (by kernel_rfl) (fun _ _ _ h => h) (Or.inl ⟨by rfl, ?_⟩) (by assumption) ?_
                    rotate_left
                    focus
                      intro U hU
                      try dsimp only at hU
                      go_simp
                      try (with_reducible rfl)
                    simp only [List.getElem_toArray, List.getElem_cons_succ, List.getElem_cons_zero, Act.put, List.setIfInBounds_toArray, List.set_cons_zero, List.set_cons_succ]
                    refine wpAnyH_take (i := 8) (v := ?_) rfl (by kernel_rfl) (by kernel_rfl) (by kernel_rfl) (fun _ _ _ h => h) (Or.inl ⟨by rfl, ?_⟩) (by assumption) ?_
                    rotate_left
                    focus
                      intro U hU
                      try dsimp only at hU
                      go_simp
                      try (with_reducible rfl)
                    simp only [List.getElem_toArray, List.getElem_cons_succ, List.getElem_cons_zero, Act.put, List.setIfInBounds_toArray, List.set_cons_zero, List.set_cons_succ]
                    refine wpAnyH_take (i := 9) (v := ?_) rfl (by kernel_rfl) (by kernel_rfl) (by kernel_rfl) (fun _ _ _ h => h) (Or.inl ⟨by rfl, ?_⟩) (by assumption) ?_
                    rotate_left
                    focus
                      intro U hU
                      try dsimp only at hU
                      go_simp
                      try (with_reducible rfl)
                    simp only [List.getElem_toArray, List.getElem_cons_succ, List.getElem_cons_zero, Act.put, List.setIfInBounds_toArray, List.set_cons_zero, List.set_cons_succ]
                    refine wpAnyH_take (i := 10) (v := ?_) rfl (by kernel_rfl) (by kernel_rfl) (by kernel_rfl) (fun _ _ _ h => h) (Or.inl ⟨by rfl, ?_⟩) (by assumption) ?_
                    rotate_left
                    focus
                      intro U hU
                      try dsimp only at hU
                      go_simp
                      try (with_reducible rfl)
                    simp only [List.getElem_toArray, List.getElem_cons_succ, List.getElem_cons_zero, Act.put, List.setIfInBounds_toArray, List.set_cons_zero, List.set_cons_succ]
                    have hxv := HX.out.keep hk2
                    have hk4b := put11_below hxv.hb (Nat.le_trans HU.out hle) (.int .i64 f2) (.int .i64 t2) (.int .i64 i2) (.int .i64 p2) (.int .i64 q2) (.slice A2 l2.length c2) (.int .i64 w2') (.int .i64 fl2) (.int .i64 m2) (.int .i64 gp2) (.int .i64 gl2)
                    have hxw := hxv.other hz3 (fun j hj => put11_other (b := Zb) hj (.int .i64 f2) (.int .i64 t2) (.int .i64 i2) (.int .i64 p2) (.int .i64 q2) (.slice A2 l2.length c2) (.int .i64 w2') (.int .i64 fl2) (.int .i64 m2) (.int .i64 gp2) (.int .i64 gl2)) hk4b
                    have hk4 := put11_below hk2 hle (.int .i64 f2) (.int .i64 t2) (.int .i64 i2) (.int .i64 p2) (.int .i64 q2) (.slice A2 l2.length c2) (.int .i64 w2') (.int .i64 fl2) (.int .i64 m2) (.int .i64 gp2) (.int .i64 gl2)
                    have hzw := put11_heap hz3 (.int .i64 f2) (.int .i64 t2) (.int .i64 i2) (.int .i64 p2) (.int .i64 q2) (.slice A2 l2.length c2) (.int .i64 w2') (.int .i64 fl2) (.int .i64 m2) (.int .i64 gp2) (.int .i64 gl2)
                    have how := own_at ho3 hz3 (by decide) fun g hg => put11_other (b := Zb) hg (.int .i64 f2) (.int .i64 t2) (.int .i64 i2) (.int .i64 p2) (.int .i64 q2) (.slice A2 l2.length c2) (.int .i64 w2') (.int .i64 fl2) (.int .i64 m2) (.int .i64 gp2) (.int .i64 gl2)
                    have hPw := own_at hP3 hz3 (by decide) fun g hg => put11_other (b := Zb) hg (.int .i64 f2) (.int .i64 t2) (.int .i64 i2) (.int .i64 p2) (.int .i64 q2) (.slice A2 l2.length c2) (.int .i64 w2') (.int .i64 fl2) (.int .i64 m2) (.int .i64 gp2) (.int .i64 gl2)
                    obtain ⟨_, ⟨zf0, zf1, zf2, zf3, zf4, zf5, zf6, zf7, zf8, zf9, zf10⟩⟩ := eleven_cells hz3
                    simp only [put11] at hk4 hxw hzw how hPw
                    clear hxv hk4b
                    refine wpAnyH_ready (rs := [12]) (by kernel_rfl) (by simp) ?_
                    refine AllReadyH.cons rfl (fun K hK => ?_) AllReadyH.nil
                    simp only [List.getElem_toArray, List.getElem_cons_succ, List.getElem_cons_zero]
                    go_simp
                    refine hK.out _ _ ?_ (fun hHeld2 => ?_)
                    focus
                      exact hS _ hk4
                    clear hHeld
                    have hHeld := hHeld2
                    clear hHeld2 hK K
                    try simp only [List.getElem_toArray, List.getElem_cons_succ, List.getElem_cons_zero, Act.put, List.setIfInBounds_toArray, List.set_cons_zero, List.set_cons_succ]
                    refine wpAnyH_take (i := 13) (v := ?_) rfl (by kernel_rfl) (by kernel_rfl) (by kernel_rfl) (fun _ _ _ h => h) (Or.inl ⟨by rfl, ?_⟩) (by assumption) ?_
                    rotate_left
                    focus
                      intro U hU
                      try dsimp only at hU
                      go_simp
                      try (with_reducible rfl)
                    simp only [List.getElem_toArray, List.getElem_cons_succ, List.getElem_cons_zero, Act.put, List.setIfInBounds_toArray, List.set_cons_zero, List.set_cons_succ]
                    refine wpAnyH_take (i := 14) (v := ?_) rfl (by kernel_rfl) (by kernel_rfl) (by kernel_rfl) (fun _ _ _ h => h) (Or.inl ⟨by rfl, ?_⟩) (by assumption) ?_
                    rotate_left
                    focus
                      intro U hU
                      try dsimp only at hU
                      go_simp
                      try (with_reducible rfl)
                    simp only [List.getElem_toArray, List.getElem_cons_succ, List.getElem_cons_zero, Act.put, List.setIfInBounds_toArray, List.set_cons_zero, List.set_cons_succ]
                    refine wpAnyH_take (i := 15) (v := ?_) rfl (by kernel_rfl) (by kernel_rfl) (by kernel_rfl) (fun _ _ _ h => h) (Or.inl ⟨by rfl, ?_⟩) (by assumption) ?_
                    rotate_left
                    focus
                      intro U hU
                      try dsimp only at hU
                      go_simp
                      try (with_reducible rfl)
                    simp only [List.getElem_toArray, List.getElem_cons_succ, List.getElem_cons_zero, Act.put, List.setIfInBounds_toArray, List.set_cons_zero, List.set_cons_succ]
                    refine wpAnyH_done (by kernel_rfl) ?_ _
                    clear hHeld hS zf0 zf1 zf2 zf3 zf4 zf5 zf6 zf7 zf8 zf9 zf10
                    go_upto_region 27 with (fail)
                    refine at_world (fun v => v.heap[Zb]? = some (.cells (ec ⟨f2, t2, i2, ⟨p2, q2, l2, w2', fl2⟩, m2, gp2, gl2⟩ A2 c2) 54 (0, 0)) ∧ NX W v g x A ca B cb D1 cd E1 ce1 ([] : List Pk) G gc gl T7 c7 L ∧ v.ownsRow W.heap.size 9 1 (.slice A2 l2.length c2) l2.length (scells l2) ∧ OwnP W v (.slice B2 l.length d2) l) ⟨hzw, hxw, how, hPw⟩ ?_
                    clear hzw hxw how hPw hk4
                    rintro w3 ⟨ht3, hx3, ho3', hP3'⟩
                    have hdd : ∀ j, (Value.slice G gl.length gc).ownBlock = some j → (Value.slice A2 l2.length c2).ownBlock ≠ some j := fun j hj h9 => by
                      have q1 := (HX.out.hG.lt j hj).2
                      have q2 := hfr j h9
                      omega
                    obtain ⟨⟨zq0, zq1, zq2, zq3, zq4, zq5, zq6, zq7, zq8, zq9, zq10⟩, _⟩ := eleven_cells ht3
                    have hg3 := hx3.hg
                    simp only [prc] at hg3
                    obtain ⟨_, ⟨cg0, cg1, cg2, cg3, cg4, cg5, cg6, cg7, cg8, cg9, cg10, cg11, cg12, cg13, cg14, cg15, cg16, cg17, cg18, cg19, cg20, cg21, cg22, cg23, cg24, cg25, cg26, cg27⟩⟩ := pair_cells hg3
                    have HS := hid (hx3.setA (e := ⟨f2, t2, i2, ⟨p2, q2, l2, w2', fl2⟩, m2, gp2, gl2⟩) (R := A2) (rc := c2) HLN.out (sl_own ho3').2.2.1)
                    have HP3 := hid (own_at hP3' hx3.hg (by decide) fun j hj => putA_other hj (.int .i64 f2) (.int .i64 t2) (.int .i64 i2) (.int .i64 p2) (.int .i64 q2) (.slice A2 l2.length c2) (.int .i64 w2') (.int .i64 fl2) (.int .i64 m2) (.int .i64 gp2) (.int .i64 gl2))
                    clear ht3 hx3 ho3' hP3' hg3 hdd hfr HX
                    go_upto_region 28 with (fail)
                    refine at_world (fun u => NX W u g (setPA x ⟨f2, t2, i2, ⟨p2, q2, l2, w2', fl2⟩, m2, gp2, gl2⟩) A2 c2 B cb D1 cd E1 ce1 ([] : List Pk) G gc gl T7 c7 L ∧ OwnP W u (.slice B2 l.length d2) l) ⟨HS.out, HP3.out⟩ ?_
                    clear zq0 zq1 zq2 zq3 zq4 zq5 zq6 zq7 zq8 zq9 zq10 cg0 cg1 cg2 cg3 cg4 cg5 cg6 cg7 cg8 cg9 cg10 cg11 cg12 cg13 cg14 cg15 cg16 cg17 cg18 cg19 cg20 cg21 cg22 cg23 cg24 cg25 cg26 cg27 HS HP3
                    rintro w5 ⟨hx5, hP5⟩
                    cases got with
                    | false =>
                      have HGE : Hid (phG L (phS L ph) = gl) := hid (HGF.out rfl)
                      have HX5 := hid hx5
                      have hsl5 := sl_own hP5
                      have htl : l.length ≤ 2 := HTL.out
                      have hbe := hx5.hb.size
                      clear hx5 hP5
                      go_wp2_with (at_builtin; refine wpList_append_slk rfl (.tmp 154) (.tmp 155) 56 rfl W.heap.size 71 Try.underlying56 info_pkt rfl (by omega) rfl HX5.out.hE rfl hsl5 (pkc_one _) (by show 0 + _ ≤ _; unfold maxLen; omega) (by show (0 + _) * 64 ≤ _; omega) hbe ?_)
                      intro v6 w6 ho6 hb6 hsz6 hk6
                      obtain ⟨E6, e6, rfl, _⟩ := Mid.form ho6
                      have HF := hid (HX5.out.app (l := l) (E' := E6) (ce' := e6) (by simpa using ho6) hb6 hk6)
                      clear ho6 hb6 hsz6 hk6 HX5 hsl5
                      go_wp2
                      go_roundw
                      case rel =>
                        (repeat apply Exists.intro)
                        refine ⟨?_, rfl⟩
                        have q1 := HPN.out
                        refine ⟨k + 1, l.length, e6, gl.length, gc, E6, G, by omega, rfl, rfl, by go_num, hid ⟨phS L ph, A2, c2, B, cb, m, ?_, by rw [HWL.out], by rw [HGE.out], HOK.out.1, HOK.out.2.2 m HPM.out, HMN.out, by have := HOK.out.2.1; omega⟩⟩
                        have h9 := HF.out
                        rw [HXS.out] at h9
                        rw [HWL.out, HGE.out]
                        simpa using h9
                      case measure => simp [intOf]; omega
                    | true =>
                      obtain ⟨y, rfl, hgy⟩ := HGT.out rfl
                      have HGE : Hid (phG L (phS L ph) = gl ++ [y]) := hid hgy
                      have HX7 := hid hx5
                      have HP7 := hid hP5
                      have hbe := hx5.hb.size
                      have hgl9 : gl.length ≤ 1000 := HGN.out
                      clear hgy hx5 hP5
                      go_wp2_with (at_builtin; refine wpList_append_1w rfl (.tmp 150) (.tmp 152) 24 rfl W.heap.size 9 Try.underlying24 info_str9 rfl (by omega) rfl HX7.out.hG rfl rfl (by simp; rfl) (by unfold maxLen; omega) (by omega) hbe (Below.refl _ _) ?_)
                      intro v7 w7 ho7 hb7 hsz7 hk7 hw7
                      obtain ⟨G7, c7', rfl, _⟩ := Sl.of_own ho7
                      have hx5 := HX7.out.push (y := y) ho7 hb7 hk7 hw7
                      have hP5 := own_other HP7.out HX7.out.hG (by decide) hk7
                      clear ho7 hb7 hsz7 hk7 hw7 HX7 HP7
                      have hgl1 : (gl ++ [y]).length = gl.length + 1 := by simp
                      have HX5 := hid hx5
                      have hsl5 := sl_own hP5
                      have htl : l.length ≤ 2 := HTL.out
                      have hbe := hx5.hb.size
                      clear hx5 hP5
                      go_wp2_with (at_builtin; refine wpList_append_slk rfl (.tmp 154) (.tmp 155) 56 rfl W.heap.size 71 Try.underlying56 info_pkt rfl (by omega) rfl HX5.out.hE rfl hsl5 (pkc_one _) (by show 0 + _ ≤ _; unfold maxLen; omega) (by show (0 + _) * 64 ≤ _; omega) hbe ?_)
                      intro v6 w6 ho6 hb6 hsz6 hk6
                      obtain ⟨E6, e6, rfl, _⟩ := Mid.form ho6
                      have HF := hid (HX5.out.app (l := l) (E' := E6) (ce' := e6) (by simpa using ho6) hb6 hk6)
                      clear ho6 hb6 hsz6 hk6 HX5 hsl5
                      go_wp2
                      go_roundw
                      case rel =>
                        (repeat apply Exists.intro)
                        refine ⟨?_, rfl⟩
                        have q1 := HPN.out
                        refine ⟨k + 1, l.length, e6, gl.length + 1, c7', E6, G7, by omega, rfl, rfl, by go_num, hid ⟨phS L ph, A2, c2, B, cb, m, ?_, by rw [HWL.out], by rw [HGE.out]; simp, HOK.out.1, HOK.out.2.2 m HPM.out, HMN.out, by have := HOK.out.2.1; omega⟩⟩
                        have h9 := HF.out
                        rw [HXS.out] at h9
                        rw [HWL.out, HGE.out]
                        simpa using h9
                      case measure => simp [intOf]; omega
                case inr =>
                  have HGB := hid hgb
                  have HTL0 := HTLB.out
                  rw [htk] at HTL0
                  have hxb : phB I q0 c9 L ph = x.b := by rw [← HXX.out]; rfl
                  have HTK := fun w (h : NX W w g x A ca B cb D1 cd E1 ce1 [] G gc gl T7 c7 L) => ltake_any (phB I q0 c9 L ph) ⟨pk, pf, 8, pi, pp, ps, pb⟩ B cb w (sl_eq hxb (sl_own h.hB)) HLB.out.1 HLB.out.2.1 HLB.out.2.2.1 hps.1 hps.2 HLB.out.2.2.2.1 HLB.out.2.2.2.2
                  rw [htk, hxb] at HTK
                  replace HTK := hid HTK
                  clear hxb
                  have HXS : Hid (setPB x (phB I q0 c9 L (phS L ph)) = mkN x0 I q0 c9 L (phS L ph)) := hid (by rw [← HXX.out]; simp only [setPB, mkN, hpha])
                  generalize phB I q0 c9 L (phS L ph) = ea at *
                  obtain ⟨f2, t2, i2, ⟨p2, q2, l2, w2', fl2⟩, m2, gp2, gl2⟩ := ea
                  generalize hll : phW I q0 L (phS L ph) = l at *
                  have HTL : Hid (l.length ≤ 2) := hid HTL0
                  have HWL := hid hll
                  simp only [ec, pca] at HTK
                  clear hgb hpha htk HTL0 hll hps
                  have hg := hx1.hg
                  have hS : ∀ U, Below u1.heap.size u1 U → (((U.cell? ⟨g, 11, none⟩ = some (.int .i64 x.b.f) ∧ U.cell? ⟨g, 12, none⟩ = some (.int .i64 x.b.t) ∧ U.cell? ⟨g, 13, none⟩ = some (.int .i64 x.b.i) ∧ U.cell? ⟨g, 14, none⟩ = some (.int .i64 x.b.o.p) ∧ U.cell? ⟨g, 15, none⟩ = some (.int .i64 x.b.o.q) ∧ U.cell? ⟨g, 16, none⟩ = some (.slice B x.b.o.l.length cb) ∧ U.cell? ⟨g, 17, none⟩ = some (.int .i64 x.b.o.w) ∧ U.cell? ⟨g, 18, none⟩ = some (.int .i64 x.b.o.f) ∧ U.cell? ⟨g, 19, none⟩ = some (.int .i64 x.b.m) ∧ U.cell? ⟨g, 20, none⟩ = some (.int .i64 x.b.p) ∧ U.cell? ⟨g, 21, none⟩ = some (.int .i64 x.b.l)) ∧ U.cell? ⟨Pb, 0, none⟩ = some (.int .i64 pk) ∧ U.cell? ⟨Pb, 1, none⟩ = some (.int .i64 pf) ∧ U.cell? ⟨Pb, 2, none⟩ = some (.int .i64 8) ∧ U.cell? ⟨Pb, 3, none⟩ = some (.int .i64 pi) ∧ U.cell? ⟨Pb, 4, none⟩ = some (.int .i64 pp) ∧ U.cell? ⟨Pb, 5, none⟩ = some (.int .i64 ps) ∧ U.cell? ⟨Pb, 6, none⟩ = some (.string (str pb))) ∧ Below u1.heap.size u1 U) := fun U hU => by
                    have h9 := keep0 hg hU
                    simp only [prc] at h9
                    have h8 := (pair_cells h9).1
                    have h7 := (seven_cells (keep0 hp1 hU)).1
                    exact ⟨⟨⟨h8.2.2.2.2.2.2.2.2.2.2.2.1, h8.2.2.2.2.2.2.2.2.2.2.2.2.1, h8.2.2.2.2.2.2.2.2.2.2.2.2.2.1, h8.2.2.2.2.2.2.2.2.2.2.2.2.2.2.1, h8.2.2.2.2.2.2.2.2.2.2.2.2.2.2.2.1, h8.2.2.2.2.2.2.2.2.2.2.2.2.2.2.2.2.1, h8.2.2.2.2.2.2.2.2.2.2.2.2.2.2.2.2.2.1, h8.2.2.2.2.2.2.2.2.2.2.2.2.2.2.2.2.2.2.1, h8.2.2.2.2.2.2.2.2.2.2.2.2.2.2.2.2.2.2.2.1, h8.2.2.2.2.2.2.2.2.2.2.2.2.2.2.2.2.2.2.2.2.1, h8.2.2.2.2.2.2.2.2.2.2.2.2.2.2.2.2.2.2.2.2.2.1⟩, h7⟩, hU⟩
                  have HX := hid hx1
                  have HU := hid hx1.hb.size
                  have HP1 := hid hp1
                  clear hx1
                  go_upto_region 31 with (fail)
                  clear y0 y1 y2 y3 y4 y5 y6 hg hp1 hrun
                  have hk0 : Below u1.heap.size u1 u1.drew := below_drew (Below.refl _ _)
                  refine wp_region_held_drew (S := fun U => ((U.cell? ⟨g, 11, none⟩ = some (.int .i64 x.b.f) ∧ U.cell? ⟨g, 12, none⟩ = some (.int .i64 x.b.t) ∧ U.cell? ⟨g, 13, none⟩ = some (.int .i64 x.b.i) ∧ U.cell? ⟨g, 14, none⟩ = some (.int .i64 x.b.o.p) ∧ U.cell? ⟨g, 15, none⟩ = some (.int .i64 x.b.o.q) ∧ U.cell? ⟨g, 16, none⟩ = some (.slice B x.b.o.l.length cb) ∧ U.cell? ⟨g, 17, none⟩ = some (.int .i64 x.b.o.w) ∧ U.cell? ⟨g, 18, none⟩ = some (.int .i64 x.b.o.f) ∧ U.cell? ⟨g, 19, none⟩ = some (.int .i64 x.b.m) ∧ U.cell? ⟨g, 20, none⟩ = some (.int .i64 x.b.p) ∧ U.cell? ⟨g, 21, none⟩ = some (.int .i64 x.b.l)) ∧ U.cell? ⟨Pb, 0, none⟩ = some (.int .i64 pk) ∧ U.cell? ⟨Pb, 1, none⟩ = some (.int .i64 pf) ∧ U.cell? ⟨Pb, 2, none⟩ = some (.int .i64 8) ∧ U.cell? ⟨Pb, 3, none⟩ = some (.int .i64 pi) ∧ U.cell? ⟨Pb, 4, none⟩ = some (.int .i64 pp) ∧ U.cell? ⟨Pb, 5, none⟩ = some (.int .i64 ps) ∧ U.cell? ⟨Pb, 6, none⟩ = some (.string (str pb))) ∧ Below u1.heap.size u1 U) (by kernel_rfl) (hS _ hk0) (fun hHeld => ?_)
                  generalize u1.drew = k0 at *
                  refine wpAnyH_take (i := 0) (v := ?_) rfl (by kernel_rfl) (by kernel_rfl) (by kernel_rfl) (fun _ _ _ h => h) (Or.inl ⟨by rfl, ?_⟩) (by assumption) ?_
                  rotate_left
                  focus
                    intro U hU
                    try dsimp only at hU
                    go_simp
                    try (with_reducible rfl)
                  simp only [List.getElem_toArray, List.getElem_cons_succ, List.getElem_cons_zero, Act.put, List.setIfInBounds_toArray, List.set_cons_zero, List.set_cons_succ]
                  refine wpAnyH_take (i := 1) (v := ?_) rfl (by kernel_rfl) (by kernel_rfl) (by kernel_rfl) (fun _ _ _ h => h) (Or.inl ⟨by rfl, ?_⟩) (by assumption) ?_
                  rotate_left
                  focus
                    intro U hU
                    try dsimp only at hU
                    go_simp
                    try (with_reducible rfl)
                  simp only [List.getElem_toArray, List.getElem_cons_succ, List.getElem_cons_zero, Act.put, List.setIfInBounds_toArray, List.set_cons_zero, List.set_cons_succ]
                  refine wpAnyH_take (i := 2) (v := ?_) rfl (by kernel_rfl) (by kernel_rfl) (by kernel_rfl) (fun _ _ _ h => h) (Or.inl ⟨by rfl, ?_⟩) (by assumption) ?_
                  rotate_left
                  focus
                    intro U hU
                    try dsimp only at hU
                    go_simp
                    try (with_reducible rfl)
                  simp only [List.getElem_toArray, List.getElem_cons_succ, List.getElem_cons_zero, Act.put, List.setIfInBounds_toArray, List.set_cons_zero, List.set_cons_succ]
                  refine wpAnyH_take (i := 3) (v := ?_) rfl (by kernel_rfl) (by kernel_rfl) (by kernel_rfl) (fun _ _ _ h => h) (Or.inl ⟨by rfl, ?_⟩) (by assumption) ?_
                  rotate_left
                  focus
                    intro U hU
                    try dsimp only at hU
                    go_simp
                    try (with_reducible rfl)
                  simp only [List.getElem_toArray, List.getElem_cons_succ, List.getElem_cons_zero, Act.put, List.setIfInBounds_toArray, List.set_cons_zero, List.set_cons_succ]
                  refine wpAnyH_take (i := 4) (v := ?_) rfl (by kernel_rfl) (by kernel_rfl) (by kernel_rfl) (fun _ _ _ h => h) (Or.inl ⟨by rfl, ?_⟩) (by assumption) ?_
                  rotate_left
                  focus
                    intro U hU
                    try dsimp only at hU
                    go_simp
                    try (with_reducible rfl)
                  simp only [List.getElem_toArray, List.getElem_cons_succ, List.getElem_cons_zero, Act.put, List.setIfInBounds_toArray, List.set_cons_zero, List.set_cons_succ]
                  refine wpAnyH_ready (rs := [5, 11]) (by kernel_rfl) (by simp) ?_
                  refine (AllReadyH.cons rfl (fun K hK => ?_) (AllReadyH.cons rfl (fun K hK => ?_) AllReadyH.nil))
                  · skip
                    simp only [List.getElem_toArray, List.getElem_cons_succ, List.getElem_cons_zero]
                    go_simp
                    refine (HTK.out _ (HX.out.keep hk0)).mono ?_
                    rintro e u2 ⟨A2, c2, B2, d2, rfl, ho2, hP2, g2⟩
                    simp only [ec]
                    have hk2 := hk0.trans (g2.mono hk0.size)
                    have hfr : ∀ j, (Value.slice A2 l2.length c2).ownBlock = some j → u1.heap.size ≤ j := fun j hj => Nat.le_trans hk0.size (own_blk_ge ho2 j hj)
                    have ho3 := own_mono ho2 (Nat.le_trans HU.out hk0.size)
                    have hP3 := own_mono hP2 (Nat.le_trans HU.out hk0.size)
                    clear g2 ho2 hP2
                    go_wp2_with fail
                    refine hK.out _ _ ?_ (fun hHeld2 => ?_)
                    focus
                      exact hS _ hk2
                    clear hHeld
                    have hHeld := hHeld2
                    clear hHeld2 hK K
                    try simp only [List.getElem_toArray, List.getElem_cons_succ, List.getElem_cons_zero, Act.put, List.setIfInBounds_toArray, List.set_cons_zero, List.set_cons_succ]
                    refine wpAnyH_take (i := 6) (v := ?_) rfl (by kernel_rfl) (by kernel_rfl) (by kernel_rfl) (fun _ _ _ h => h) (Or.inl ⟨by rfl, ?_⟩) (by assumption) ?_
                    rotate_left
                    focus
                      intro U hU
                      try dsimp only at hU
                      go_simp
                      try (with_reducible rfl)
                    simp only [List.getElem_toArray, List.getElem_cons_succ, List.getElem_cons_zero, Act.put, List.setIfInBounds_toArray, List.set_cons_zero, List.set_cons_succ]
                    refine wpAnyH_take (i := 7) (v := ?_) rfl (by kernel_rfl) (by kernel_rfl) (by kernel_rfl) (fun _ _ _ h => h) (Or.inl ⟨by rfl, ?_⟩) (by assumption) ?_
                    rotate_left
                    focus
                      intro U hU
                      try dsimp only at hU
                      go_simp
                      try (with_reducible rfl)
                    simp only [List.getElem_toArray, List.getElem_cons_succ, List.getElem_cons_zero, Act.put, List.setIfInBounds_toArray, List.set_cons_zero, List.set_cons_succ]
                    refine wpAnyH_take (i := 8) (v := ?_) rfl (by kernel_rfl) (by kernel_rfl) (by kernel_rfl) (fun _ _ _ h => h) (Or.inl ⟨by rfl, ?_⟩) (by assumption) ?_
                    rotate_left
                    focus
                      intro U hU
                      try dsimp only at hU
                      go_simp
                      try (with_reducible rfl)
                    simp only [List.getElem_toArray, List.getElem_cons_succ, List.getElem_cons_zero, Act.put, List.setIfInBounds_toArray, List.set_cons_zero, List.set_cons_succ]
                    refine wpAnyH_take (i := 9) (v := ?_) rfl (by kernel_rfl) (by kernel_rfl) (by kernel_rfl) (fun _ _ _ h => h) (Or.inl ⟨by rfl, ?_⟩) (by assumption) ?_
                    rotate_left
                    focus
                      intro U hU
                      try dsimp only at hU
                      go_simp
                      try (with_reducible rfl)
                    simp only [List.getElem_toArray, List.getElem_cons_succ, List.getElem_cons_zero, Act.put, List.setIfInBounds_toArray, List.set_cons_zero, List.set_cons_succ]
                    refine wpAnyH_take (i := 10) (v := ?_) rfl (by kernel_rfl) (by kernel_rfl) (by kernel_rfl) (fun _ _ _ h => h) (Or.inl ⟨by rfl, ?_⟩) (by assumption) ?_
                    rotate_left
                    focus
                      intro U hU
                      try dsimp only at hU
                      go_simp
                      try (with_reducible rfl)
                    simp only [List.getElem_toArray, List.getElem_cons_succ, List.getElem_cons_zero, Act.put, List.setIfInBounds_toArray, List.set_cons_zero, List.set_cons_succ]
                    refine wpAnyH_ready (rs := [11]) (by kernel_rfl) (by simp) ?_
                    refine (AllReadyH.cons rfl (fun K hK => ?_) AllReadyH.nil)
                    simp only [List.getElem_toArray, List.getElem_cons_succ, List.getElem_cons_zero]
                    go_simp
                    refine hK.out _ _ ?_ (fun hHeld2 => ?_)
                    focus
                      exact hS _ (hk2.alloc hk2.size _)
                    clear hHeld
                    have hHeld := hHeld2
                    clear hHeld2 hK K
                    try simp only [List.getElem_toArray, List.getElem_cons_succ, List.getElem_cons_zero, Act.put, List.setIfInBounds_toArray, List.set_cons_zero, List.set_cons_succ]
                    have hbn : Below (World.heap u2).size u2 (World.alloc u2 (.cells #[.int .i64 0, .int .i64 0, .int .i64 0, .int .i64 0, .int .i64 0, .slice none 0 0, .int .i64 0, .int .i64 0, .int .i64 0, .int .i64 0, .int .i64 0] 54)) := (Below.refl _ _).alloc (Nat.le_refl _) _
                    have hk3 := hk2.trans (hbn.mono hk2.size)
                    have hz3 := heap_alloc_new u2 (.cells #[.int .i64 0, .int .i64 0, .int .i64 0, .int .i64 0, .int .i64 0, .slice none 0 0, .int .i64 0, .int .i64 0, .int .i64 0, .int .i64 0, .int .i64 0] 54)
                    have hle : u1.heap.size ≤ (World.heap u2).size := hk2.size
                    have ho4 := own_keep ho3 hbn
                    have hP4 := own_keep hP3 hbn
                    clear hbn
                    generalize World.alloc u2 (.cells #[.int .i64 0, .int .i64 0, .int .i64 0, .int .i64 0, .int .i64 0, .slice none 0 0, .int .i64 0, .int .i64 0, .int .i64 0, .int .i64 0, .int .i64 0] 54) = k9 at *
                    generalize (World.heap u2).size = Zb at *
                    have hxv := HX.out.keep hk3
                    have hk4b := put11_below hxv.hb (Nat.le_trans HU.out hle) (.int .i64 f2) (.int .i64 t2) (.int .i64 i2) (.int .i64 p2) (.int .i64 q2) (.slice A2 l2.length c2) (.int .i64 w2') (.int .i64 fl2) (.int .i64 m2) (.int .i64 gp2) (.int .i64 gl2)
                    have hxw := hxv.other hz3 (fun j hj => put11_other (b := Zb) hj (.int .i64 f2) (.int .i64 t2) (.int .i64 i2) (.int .i64 p2) (.int .i64 q2) (.slice A2 l2.length c2) (.int .i64 w2') (.int .i64 fl2) (.int .i64 m2) (.int .i64 gp2) (.int .i64 gl2)) hk4b
                    have hk4 := put11_below hk3 hle (.int .i64 f2) (.int .i64 t2) (.int .i64 i2) (.int .i64 p2) (.int .i64 q2) (.slice A2 l2.length c2) (.int .i64 w2') (.int .i64 fl2) (.int .i64 m2) (.int .i64 gp2) (.int .i64 gl2)
                    have hzw := put11_heap hz3 (.int .i64 f2) (.int .i64 t2) (.int .i64 i2) (.int .i64 p2) (.int .i64 q2) (.slice A2 l2.length c2) (.int .i64 w2') (.int .i64 fl2) (.int .i64 m2) (.int .i64 gp2) (.int .i64 gl2)
                    have how := own_at ho4 hz3 (by decide) fun g hg => put11_other (b := Zb) hg (.int .i64 f2) (.int .i64 t2) (.int .i64 i2) (.int .i64 p2) (.int .i64 q2) (.slice A2 l2.length c2) (.int .i64 w2') (.int .i64 fl2) (.int .i64 m2) (.int .i64 gp2) (.int .i64 gl2)
                    have hPw := own_at hP4 hz3 (by decide) fun g hg => put11_other (b := Zb) hg (.int .i64 f2) (.int .i64 t2) (.int .i64 i2) (.int .i64 p2) (.int .i64 q2) (.slice A2 l2.length c2) (.int .i64 w2') (.int .i64 fl2) (.int .i64 m2) (.int .i64 gp2) (.int .i64 gl2)
                    obtain ⟨_, ⟨zf0, zf1, zf2, zf3, zf4, zf5, zf6, zf7, zf8, zf9, zf10⟩⟩ := eleven_cells hz3
                    simp only [put11] at hk4 hxw hzw how hPw
                    clear hxv hk4b
                    refine wpAnyH_ready (rs := [12]) (by kernel_rfl) (by simp) ?_
                    refine AllReadyH.cons rfl (fun K hK => ?_) AllReadyH.nil
                    simp only [List.getElem_toArray, List.getElem_cons_succ, List.getElem_cons_zero]
                    go_simp
                    refine hK.out _ _ ?_ (fun hHeld2 => ?_)
                    focus
                      exact hS _ hk4
                    clear hHeld
                    have hHeld := hHeld2
                    clear hHeld2 hK K
                    try simp only [List.getElem_toArray, List.getElem_cons_succ, List.getElem_cons_zero, Act.put, List.setIfInBounds_toArray, List.set_cons_zero, List.set_cons_succ]
                    refine wpAnyH_take (i := 13) (v := ?_) rfl (by kernel_rfl) (by kernel_rfl) (by kernel_rfl) (fun _ _ _ h => h) (Or.inl ⟨by rfl, ?_⟩) (by assumption) ?_
                    rotate_left
                    focus
                      intro U hU
                      try dsimp only at hU
                      go_simp
                      try (with_reducible rfl)
                    simp only [List.getElem_toArray, List.getElem_cons_succ, List.getElem_cons_zero, Act.put, List.setIfInBounds_toArray, List.set_cons_zero, List.set_cons_succ]
                    refine wpAnyH_take (i := 14) (v := ?_) rfl (by kernel_rfl) (by kernel_rfl) (by kernel_rfl) (fun _ _ _ h => h) (Or.inl ⟨by rfl, ?_⟩) (by assumption) ?_
                    rotate_left
                    focus
                      intro U hU
                      try dsimp only at hU
                      go_simp
                      try (with_reducible rfl)
                    simp only [List.getElem_toArray, List.getElem_cons_succ, List.getElem_cons_zero, Act.put, List.setIfInBounds_toArray, List.set_cons_zero, List.set_cons_succ]
                    refine wpAnyH_take (i := 15) (v := ?_) rfl (by kernel_rfl) (by kernel_rfl) (by kernel_rfl) (fun _ _ _ h => h) (Or.inl ⟨by rfl, ?_⟩) (by assumption) ?_
                    rotate_left
                    focus
                      intro U hU
                      try dsimp only at hU
                      go_simp
                      try (with_reducible rfl)
                    simp only [List.getElem_toArray, List.getElem_cons_succ, List.getElem_cons_zero, Act.put, List.setIfInBounds_toArray, List.set_cons_zero, List.set_cons_succ]
                    refine wpAnyH_done (by kernel_rfl) ?_ _
                    clear hHeld hS zf0 zf1 zf2 zf3 zf4 zf5 zf6 zf7 zf8 zf9 zf10
                    go_upto_region 32 with (fail)
                    refine at_world (fun v => v.heap[Zb]? = some (.cells (ec ⟨f2, t2, i2, ⟨p2, q2, l2, w2', fl2⟩, m2, gp2, gl2⟩ A2 c2) 54 (0, 0)) ∧ NX W v g x A ca B cb D1 cd E1 ce1 ([] : List Pk) G gc gl T7 c7 L ∧ v.ownsRow W.heap.size 9 1 (.slice A2 l2.length c2) l2.length (scells l2) ∧ OwnP W v (.slice B2 l.length d2) l) ⟨hzw, hxw, how, hPw⟩ ?_
                    clear hzw hxw how hPw hk4
                    rintro w3 ⟨ht3, hx3, ho3', hP3'⟩
                    have hdd : ∀ j, (Value.slice G gl.length gc).ownBlock = some j → (Value.slice A2 l2.length c2).ownBlock ≠ some j := fun j hj h9 => by
                      have q1 := (HX.out.hG.lt j hj).2
                      have q2 := hfr j h9
                      omega
                    obtain ⟨⟨zq0, zq1, zq2, zq3, zq4, zq5, zq6, zq7, zq8, zq9, zq10⟩, _⟩ := eleven_cells ht3
                    have hg3 := hx3.hg
                    simp only [prc] at hg3
                    obtain ⟨_, ⟨cg0, cg1, cg2, cg3, cg4, cg5, cg6, cg7, cg8, cg9, cg10, cg11, cg12, cg13, cg14, cg15, cg16, cg17, cg18, cg19, cg20, cg21, cg22, cg23, cg24, cg25, cg26, cg27⟩⟩ := pair_cells hg3
                    have HS := hid (hx3.setB (e := ⟨f2, t2, i2, ⟨p2, q2, l2, w2', fl2⟩, m2, gp2, gl2⟩) (R := A2) (rc := c2) ho3' hdd)
                    have HP3 := hid (own_at hP3' hx3.hg (by decide) fun j hj => putB_other hj (.int .i64 f2) (.int .i64 t2) (.int .i64 i2) (.int .i64 p2) (.int .i64 q2) (.slice A2 l2.length c2) (.int .i64 w2') (.int .i64 fl2) (.int .i64 m2) (.int .i64 gp2) (.int .i64 gl2))
                    clear ht3 hx3 ho3' hP3' hg3 hdd hfr HX
                    go_upto_region 33 with (fail)
                    refine at_world (fun u => NX W u g (setPB x ⟨f2, t2, i2, ⟨p2, q2, l2, w2', fl2⟩, m2, gp2, gl2⟩) A ca A2 c2 D1 cd E1 ce1 ([] : List Pk) G gc gl T7 c7 L ∧ OwnP W u (.slice B2 l.length d2) l) ⟨HS.out, HP3.out⟩ ?_
                    clear zq0 zq1 zq2 zq3 zq4 zq5 zq6 zq7 zq8 zq9 zq10 cg0 cg1 cg2 cg3 cg4 cg5 cg6 cg7 cg8 cg9 cg10 cg11 cg12 cg13 cg14 cg15 cg16 cg17 cg18 cg19 cg20 cg21 cg22 cg23 cg24 cg25 cg26 cg27 HS HP3
                    rintro w5 ⟨hx5, hP5⟩
                    have HGE : Hid (phG L (phS L ph) = gl) := hid HGB.out
                    have HX5 := hid hx5
                    have hsl5 := sl_own hP5
                    have htl : l.length ≤ 2 := HTL.out
                    have hbe := hx5.hb.size
                    clear hx5 hP5
                    go_wp2_with (at_builtin; refine wpList_append_slk rfl (.tmp 154) (.tmp 155) 56 rfl W.heap.size 71 Try.underlying56 info_pkt rfl (by omega) rfl HX5.out.hE rfl hsl5 (pkc_one _) (by show 0 + _ ≤ _; unfold maxLen; omega) (by show (0 + _) * 64 ≤ _; omega) hbe ?_)
                    intro v6 w6 ho6 hb6 hsz6 hk6
                    obtain ⟨E6, e6, rfl, _⟩ := Mid.form ho6
                    have HF := hid (HX5.out.app (l := l) (E' := E6) (ce' := e6) (by simpa using ho6) hb6 hk6)
                    clear ho6 hb6 hsz6 hk6 HX5 hsl5
                    go_wp2
                    go_roundw
                    case rel =>
                      (repeat apply Exists.intro)
                      refine ⟨?_, rfl⟩
                      have q1 := HPN.out
                      refine ⟨k + 1, l.length, e6, gl.length, gc, E6, G, by omega, rfl, rfl, by go_num, hid ⟨phS L ph, A, ca, A2, c2, m, ?_, by rw [HWL.out], by rw [HGE.out], HOK.out.1, HOK.out.2.2 m HPM.out, HMN.out, by have := HOK.out.2.1; omega⟩⟩
                      have h9 := HF.out
                      rw [HXS.out] at h9
                      rw [HWL.out, HGE.out]
                      simpa using h9
                    case measure => simp [intOf]; omega
                  · skip
                    simp only [List.getElem_toArray, List.getElem_cons_succ, List.getElem_cons_zero]
                    go_simp
                    refine hK.out _ _ ?_ (fun hHeld2 => ?_)
                    focus
                      exact hS _ (hk0.alloc hk0.size _)
                    clear hHeld
                    have hHeld := hHeld2
                    clear hHeld2 hK K
                    try simp only [List.getElem_toArray, List.getElem_cons_succ, List.getElem_cons_zero, Act.put, List.setIfInBounds_toArray, List.set_cons_zero, List.set_cons_succ]
                    have hbn : Below (World.heap k0).size k0 (World.alloc k0 (.cells #[.int .i64 0, .int .i64 0, .int .i64 0, .int .i64 0, .int .i64 0, .slice none 0 0, .int .i64 0, .int .i64 0, .int .i64 0, .int .i64 0, .int .i64 0] 54)) := (Below.refl _ _).alloc (Nat.le_refl _) _
                    have hk0b := hk0.trans (hbn.mono hk0.size)
                    have hz1 := heap_alloc_new k0 (.cells #[.int .i64 0, .int .i64 0, .int .i64 0, .int .i64 0, .int .i64 0, .slice none 0 0, .int .i64 0, .int .i64 0, .int .i64 0, .int .i64 0, .int .i64 0] 54)
                    have hle : u1.heap.size ≤ (World.heap k0).size := hk0.size
                    clear hbn
                    generalize World.alloc k0 (.cells #[.int .i64 0, .int .i64 0, .int .i64 0, .int .i64 0, .int .i64 0, .slice none 0 0, .int .i64 0, .int .i64 0, .int .i64 0, .int .i64 0, .int .i64 0] 54) = k9 at *
                    generalize (World.heap k0).size = Zb at *
                    refine wpAnyH_ready (rs := [5]) (by kernel_rfl) (by simp) ?_
                    refine (AllReadyH.cons rfl (fun K hK => ?_) AllReadyH.nil)
                    simp only [List.getElem_toArray, List.getElem_cons_succ, List.getElem_cons_zero]
                    go_simp
                    refine (HTK.out _ (HX.out.keep hk0b)).mono ?_
                    rintro e u2 ⟨A2, c2, B2, d2, rfl, ho2, hP2, g2⟩
                    simp only [ec]
                    have hk2 := hk0b.trans (g2.mono hk0b.size)
                    have hfr : ∀ j, (Value.slice A2 l2.length c2).ownBlock = some j → u1.heap.size ≤ j := fun j hj => Nat.le_trans hk0b.size (own_blk_ge ho2 j hj)
                    have ho3 := own_mono ho2 (Nat.le_trans HU.out hk0b.size)
                    have hP3 := own_mono hP2 (Nat.le_trans HU.out hk0b.size)
                    have hz3 := keep0 hz1 g2
                    clear g2 ho2 hP2
                    go_wp2_with fail
                    refine hK.out _ _ ?_ (fun hHeld2 => ?_)
                    focus
                      exact hS _ hk2
                    clear hHeld
                    have hHeld := hHeld2
                    clear hHeld2 hK K
                    try simp only [List.getElem_toArray, List.getElem_cons_succ, List.getElem_cons_zero, Act.put, List.setIfInBounds_toArray, List.set_cons_zero, List.set_cons_succ]
                    refine wpAnyH_take (i := 6) (v := ?_) rfl (by kernel_rfl) (by kernel_rfl) (by kernel_rfl) (fun _ _ _ h => h) (Or.inl ⟨by rfl, ?_⟩) (by assumption) ?_
                    rotate_left
                    focus
                      intro U hU
                      try dsimp only at hU
                      go_simp
                      try (with_reducible rfl)
                    simp only [List.getElem_toArray, List.getElem_cons_succ, List.getElem_cons_zero, Act.put, List.setIfInBounds_toArray, List.set_cons_zero, List.set_cons_succ]
                    refine wpAnyH_take (i := 7) (v := ?_) rfl (by kernel_rfl) (by kernel_rfl) (by kernel_rfl) (fun _ _ _ h => h) (Or.inl ⟨by rfl, ?_⟩) (by assumption) ?_
                    rotate_left
                    focus
                      intro U hU
                      try dsimp only at hU
                      go_simp
                      try (with_reducible rfl)
                    simp only [List.getElem_toArray, List.getElem_cons_succ, List.getElem_cons_zero, Act.put, List.setIfInBounds_toArray, List.set_cons_zero, List.set_cons_succ]
                    refine wpAnyH_take (i := 8) (v := ?_) rfl (by kernel_rfl) (by kernel_rfl) (by kernel_rfl) (fun _ _ _ h => h) (Or.inl ⟨by rfl, ?_⟩) (by assumption) ?_
                    rotate_left
                    focus
                      intro U hU
                      try dsimp only at hU
                      go_simp
                      try (with_reducible rfl)
                    simp only [List.getElem_toArray, List.getElem_cons_succ, List.getElem_cons_zero, Act.put, List.setIfInBounds_toArray, List.set_cons_zero, List.set_cons_succ]
                    refine wpAnyH_take (i := 9) (v := ?_) rfl (by kernel_rfl) (by kernel_rfl) (by kernel_rfl) (fun _ _ _ h => h) (Or.inl ⟨by rfl, ?_⟩) (by assumption) ?_
                    rotate_left
                    focus
                      intro U hU
                      try dsimp only at hU
                      go_simp
                      try (with_reducible rfl)
                    simp only [List.getElem_toArray, List.getElem_cons_succ, List.getElem_cons_zero, Act.put, List.setIfInBounds_toArray, List.set_cons_zero, List.set_cons_succ]
                    refine wpAnyH_take (i := 10) (v := ?_) rfl (by kernel_rfl) (by kernel_rfl) (by kernel_rfl) (fun _ _ _ h => h) (Or.inl ⟨by rfl, ?_⟩) (by assumption) ?_
                    rotate_left
                    focus
                      intro U hU
                      try dsimp only at hU
                      go_simp
                      try (with_reducible rfl)
                    simp only [List.getElem_toArray, List.getElem_cons_succ, List.getElem_cons_zero, Act.put, List.setIfInBounds_toArray, List.set_cons_zero, List.set_cons_succ]
                    have hxv := HX.out.keep hk2
                    have hk4b := put11_below hxv.hb (Nat.le_trans HU.out hle) (.int .i64 f2) (.int .i64 t2) (.int .i64 i2) (.int .i64 p2) (.int .i64 q2) (.slice A2 l2.length c2) (.int .i64 w2') (.int .i64 fl2) (.int .i64 m2) (.int .i64 gp2) (.int .i64 gl2)
                    have hxw := hxv.other hz3 (fun j hj => put11_other (b := Zb) hj (.int .i64 f2) (.int .i64 t2) (.int .i64 i2) (.int .i64 p2) (.int .i64 q2) (.slice A2 l2.length c2) (.int .i64 w2') (.int .i64 fl2) (.int .i64 m2) (.int .i64 gp2) (.int .i64 gl2)) hk4b
                    have hk4 := put11_below hk2 hle (.int .i64 f2) (.int .i64 t2) (.int .i64 i2) (.int .i64 p2) (.int .i64 q2) (.slice A2 l2.length c2) (.int .i64 w2') (.int .i64 fl2) (.int .i64 m2) (.int .i64 gp2) (.int .i64 gl2)
                    have hzw := put11_heap hz3 (.int .i64 f2) (.int .i64 t2) (.int .i64 i2) (.int .i64 p2) (.int .i64 q2) (.slice A2 l2.length c2) (.int .i64 w2') (.int .i64 fl2) (.int .i64 m2) (.int .i64 gp2) (.int .i64 gl2)
                    have how := own_at ho3 hz3 (by decide) fun g hg => put11_other (b := Zb) hg (.int .i64 f2) (.int .i64 t2) (.int .i64 i2) (.int .i64 p2) (.int .i64 q2) (.slice A2 l2.length c2) (.int .i64 w2') (.int .i64 fl2) (.int .i64 m2) (.int .i64 gp2) (.int .i64 gl2)
                    have hPw := own_at hP3 hz3 (by decide) fun g hg => put11_other (b := Zb) hg (.int .i64 f2) (.int .i64 t2) (.int .i64 i2) (.int .i64 p2) (.int .i64 q2) (.slice A2 l2.length c2) (.int .i64 w2') (.int .i64 fl2) (.int .i64 m2) (.int .i64 gp2) (.int .i64 gl2)
                    obtain ⟨_, ⟨zf0, zf1, zf2, zf3, zf4, zf5, zf6, zf7, zf8, zf9, zf10⟩⟩ := eleven_cells hz3
                    simp only [put11] at hk4 hxw hzw how hPw
                    clear hxv hk4b
                    refine wpAnyH_ready (rs := [12]) (by kernel_rfl) (by simp) ?_
                    refine AllReadyH.cons rfl (fun K hK => ?_) AllReadyH.nil
                    simp only [List.getElem_toArray, List.getElem_cons_succ, List.getElem_cons_zero]
                    go_simp
                    refine hK.out _ _ ?_ (fun hHeld2 => ?_)
                    focus
                      exact hS _ hk4
                    clear hHeld
                    have hHeld := hHeld2
                    clear hHeld2 hK K
                    try simp only [List.getElem_toArray, List.getElem_cons_succ, List.getElem_cons_zero, Act.put, List.setIfInBounds_toArray, List.set_cons_zero, List.set_cons_succ]
                    refine wpAnyH_take (i := 13) (v := ?_) rfl (by kernel_rfl) (by kernel_rfl) (by kernel_rfl) (fun _ _ _ h => h) (Or.inl ⟨by rfl, ?_⟩) (by assumption) ?_
                    rotate_left
                    focus
                      intro U hU
                      try dsimp only at hU
                      go_simp
                      try (with_reducible rfl)
                    simp only [List.getElem_toArray, List.getElem_cons_succ, List.getElem_cons_zero, Act.put, List.setIfInBounds_toArray, List.set_cons_zero, List.set_cons_succ]
                    refine wpAnyH_take (i := 14) (v := ?_) rfl (by kernel_rfl) (by kernel_rfl) (by kernel_rfl) (fun _ _ _ h => h) (Or.inl ⟨by rfl, ?_⟩) (by assumption) ?_
                    rotate_left
                    focus
                      intro U hU
                      try dsimp only at hU
                      go_simp
                      try (with_reducible rfl)
                    simp only [List.getElem_toArray, List.getElem_cons_succ, List.getElem_cons_zero, Act.put, List.setIfInBounds_toArray, List.set_cons_zero, List.set_cons_succ]
                    refine wpAnyH_take (i := 15) (v := ?_) rfl (by kernel_rfl) (by kernel_rfl) (by kernel_rfl) (fun _ _ _ h => h) (Or.inl ⟨by rfl, ?_⟩) (by assumption) ?_
                    rotate_left
                    focus
                      intro U hU
                      try dsimp only at hU
                      go_simp
                      try (with_reducible rfl)
                    simp only [List.getElem_toArray, List.getElem_cons_succ, List.getElem_cons_zero, Act.put, List.setIfInBounds_toArray, List.set_cons_zero, List.set_cons_succ]
                    refine wpAnyH_done (by kernel_rfl) ?_ _
                    clear hHeld hS zf0 zf1 zf2 zf3 zf4 zf5 zf6 zf7 zf8 zf9 zf10
                    go_upto_region 32 with (fail)
                    refine at_world (fun v => v.heap[Zb]? = some (.cells (ec ⟨f2, t2, i2, ⟨p2, q2, l2, w2', fl2⟩, m2, gp2, gl2⟩ A2 c2) 54 (0, 0)) ∧ NX W v g x A ca B cb D1 cd E1 ce1 ([] : List Pk) G gc gl T7 c7 L ∧ v.ownsRow W.heap.size 9 1 (.slice A2 l2.length c2) l2.length (scells l2) ∧ OwnP W v (.slice B2 l.length d2) l) ⟨hzw, hxw, how, hPw⟩ ?_
                    clear hzw hxw how hPw hk4
                    rintro w3 ⟨ht3, hx3, ho3', hP3'⟩
                    have hdd : ∀ j, (Value.slice G gl.length gc).ownBlock = some j → (Value.slice A2 l2.length c2).ownBlock ≠ some j := fun j hj h9 => by
                      have q1 := (HX.out.hG.lt j hj).2
                      have q2 := hfr j h9
                      omega
                    obtain ⟨⟨zq0, zq1, zq2, zq3, zq4, zq5, zq6, zq7, zq8, zq9, zq10⟩, _⟩ := eleven_cells ht3
                    have hg3 := hx3.hg
                    simp only [prc] at hg3
                    obtain ⟨_, ⟨cg0, cg1, cg2, cg3, cg4, cg5, cg6, cg7, cg8, cg9, cg10, cg11, cg12, cg13, cg14, cg15, cg16, cg17, cg18, cg19, cg20, cg21, cg22, cg23, cg24, cg25, cg26, cg27⟩⟩ := pair_cells hg3
                    have HS := hid (hx3.setB (e := ⟨f2, t2, i2, ⟨p2, q2, l2, w2', fl2⟩, m2, gp2, gl2⟩) (R := A2) (rc := c2) ho3' hdd)
                    have HP3 := hid (own_at hP3' hx3.hg (by decide) fun j hj => putB_other hj (.int .i64 f2) (.int .i64 t2) (.int .i64 i2) (.int .i64 p2) (.int .i64 q2) (.slice A2 l2.length c2) (.int .i64 w2') (.int .i64 fl2) (.int .i64 m2) (.int .i64 gp2) (.int .i64 gl2))
                    clear ht3 hx3 ho3' hP3' hg3 hdd hfr HX
                    go_upto_region 33 with (fail)
                    refine at_world (fun u => NX W u g (setPB x ⟨f2, t2, i2, ⟨p2, q2, l2, w2', fl2⟩, m2, gp2, gl2⟩) A ca A2 c2 D1 cd E1 ce1 ([] : List Pk) G gc gl T7 c7 L ∧ OwnP W u (.slice B2 l.length d2) l) ⟨HS.out, HP3.out⟩ ?_
                    clear zq0 zq1 zq2 zq3 zq4 zq5 zq6 zq7 zq8 zq9 zq10 cg0 cg1 cg2 cg3 cg4 cg5 cg6 cg7 cg8 cg9 cg10 cg11 cg12 cg13 cg14 cg15 cg16 cg17 cg18 cg19 cg20 cg21 cg22 cg23 cg24 cg25 cg26 cg27 HS HP3
                    rintro w5 ⟨hx5, hP5⟩
                    have HGE : Hid (phG L (phS L ph) = gl) := hid HGB.out
                    have HX5 := hid hx5
                    have hsl5 := sl_own hP5
                    have htl : l.length ≤ 2 := HTL.out
                    have hbe := hx5.hb.size
                    clear hx5 hP5
                    go_wp2_with (at_builtin; refine wpList_append_slk rfl (.tmp 154) (.tmp 155) 56 rfl W.heap.size 71 Try.underlying56 info_pkt rfl (by omega) rfl HX5.out.hE rfl hsl5 (pkc_one _) (by show 0 + _ ≤ _; unfold maxLen; omega) (by show (0 + _) * 64 ≤ _; omega) hbe ?_)
                    intro v6 w6 ho6 hb6 hsz6 hk6
                    obtain ⟨E6, e6, rfl, _⟩ := Mid.form ho6
                    have HF := hid (HX5.out.app (l := l) (E' := E6) (ce' := e6) (by simpa using ho6) hb6 hk6)
                    clear ho6 hb6 hsz6 hk6 HX5 hsl5
                    go_wp2
                    go_roundw
                    case rel =>
                      (repeat apply Exists.intro)
                      refine ⟨?_, rfl⟩
                      have q1 := HPN.out
                      refine ⟨k + 1, l.length, e6, gl.length, gc, E6, G, by omega, rfl, rfl, by go_num, hid ⟨phS L ph, A, ca, A2, c2, m, ?_, by rw [HWL.out], by rw [HGE.out], HOK.out.1, HOK.out.2.2 m HPM.out, HMN.out, by have := HOK.out.2.1; omega⟩⟩
                      have h9 := HF.out
                      rw [HXS.out] at h9
                      rw [HWL.out, HGE.out]
                      simpa using h9
                    case measure => simp [intOf]; omega
end Go.Proofs.Ytdekemlckpbbcaa
