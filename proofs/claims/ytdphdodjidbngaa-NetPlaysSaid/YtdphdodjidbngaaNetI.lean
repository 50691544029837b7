/- net: Turn. -/
import Derived.Test.YtdphdodjidbngaaNetH
import Derived.Test.YtdphdodjidbngaaOnly
import Derived.Lib.MinMax
import Derived.Lib.BitFns
namespace Go.Proofs.Ytdphdodjidbngaa
open Go.RowKit
set_option linter.unusedVariables false
set_option linter.unusedSimpArgs false

theorem set_cells2 {w : World} {b t : Nat} {x y z u : Value} (h : w.heap[b]? = some (.cells #[x, y, z, u] t (0, 0))) (z' u' : Value) : ((w.setCell ⟨b, 2, none⟩ z').setCell ⟨b, 3, none⟩ u').heap[b]? = some (.cells #[x, y, z', u'] t (0, 0)) := by
  simp [World.setCell, Array.getElem?_modify, h]
theorem end_eq (xs : List UInt8) (h : xs.length ≤ 100000) : wrap64 (8 * max (wrap64 (((str xs).size : Nat) - 1 : Int)) 0) = ((8 * (xs.length - 1) : Nat) : Int) := by
  rw [str_size]
  unfold wrap64
  omega
set_option maxRecDepth 20000 in
set_option maxHeartbeats 4000000 in
theorem nturn_there (B b : Nat) (m : Int) (l : List Tg) (k : Nat) (a bits : Int) (W : World) (h : NetAt B b m l W) (hk : k < l.length) (ht : l[k].t = true) : Calls Try.prog 32 #[.pointer (some ⟨b, 0, none⟩), .int .i64 (k : Int), .int .i64 a, .int .u32 bits] W fun e w' => e = .returned (.int .i64 9) ∧ Below W.heap.size W w' := by
  have HF := hid (nfind_any B b m l (k : Int) W h)
  rw [if_neg (by omega)] at HF
  obtain ⟨g, c, c1, y0, y1, y2, y3⟩ := h.cells k hk
  have hk2 : (k : Int) < (l.length : Int) := by omega
  have hk0 : ¬ (k : Int) < 0 := by omega
  rw [ht] at y3
  generalize l[k] = x at *
  obtain ⟨xf, xt, xs, xb⟩ := x
  simp only at y0 y1 y2
  clear h ht
  go_enter Try.func32, Try.ntmps32
  go_wp2_with fail
  refine HF.out.mono ?_
  rintro e w1 ⟨rfl, rfl⟩
  go_upto_region 5 with (fail)
  have hal : Below W.heap.size W (W.alloc (.cells #[.int .i64 xf, .int .i64 xt, .string (str xs), .bool true] 60)) := bel_alloc (Below.refl _ _) _
  refine at_world (fun u => u.heap[W.heap.size]? = some (.cells #[.int .i64 xf, .int .i64 xt, .string (str xs), .bool true] 60 (0, 0)) ∧ Below W.heap.size W u) ⟨heap_alloc_new _ _, hal⟩ ?_
  clear hal y0 y1 y2 y3 c1 HF
  rintro w2 ⟨hx, hb⟩
  obtain ⟨⟨p0, p1, p2, p3⟩, _⟩ := four_cells hx
  go_wp2
  go_ret
  exact ⟨rfl, hb⟩

set_option maxRecDepth 20000 in
set_option maxHeartbeats 4000000 in
theorem nturn_range (B b : Nat) (m : Int) (l : List Tg) (k : Nat) (a bits : Int) (W : World) (h : NetAt B b m l W) (hk : k < l.length) (ht : l[k].t = false) (hl : l[k].s.length ≤ 100000) (ha : a < 0 ∨ 8 * ((l[k].s.length : Int) - 1) ≤ a) : Calls Try.prog 32 #[.pointer (some ⟨b, 0, none⟩), .int .i64 (k : Int), .int .i64 a, .int .u32 bits] W fun e w' => e = .returned (.int .i64 6) ∧ Below W.heap.size W w' := by
  have HF := hid (nfind_any B b m l (k : Int) W h)
  rw [if_neg (by omega)] at HF
  obtain ⟨g, c, c1, y0, y1, y2, y3⟩ := h.cells k hk
  have hk2 : (k : Int) < (l.length : Int) := by omega
  have hk0 : ¬ (k : Int) < 0 := by omega
  rw [ht] at y3
  generalize l[k] = x at *
  obtain ⟨xf, xt, xs, xb⟩ := x
  simp only at y0 y1 y2 ha hl
  clear h ht
  go_enter Try.func32, Try.ntmps32
  go_wp2_with fail
  refine HF.out.mono ?_
  rintro e w1 ⟨rfl, rfl⟩
  go_upto_region 5 with (fail)
  have hal : Below W.heap.size W (W.alloc (.cells #[.int .i64 xf, .int .i64 xt, .string (str xs), .bool false] 60)) := bel_alloc (Below.refl _ _) _
  refine at_world (fun u => u.heap[W.heap.size]? = some (.cells #[.int .i64 xf, .int .i64 xt, .string (str xs), .bool false] 60 (0, 0)) ∧ Below W.heap.size W u) ⟨heap_alloc_new _ _, hal⟩ ?_
  clear hal y0 y1 y2 y3 c1 HF
  rintro w2 ⟨hx, hb⟩
  obtain ⟨⟨p0, p1, p2, p3⟩, _⟩ := four_cells hx
  go_upto_region 8 with (fail)
  have hE := end_eq xs hl
  generalize wrap64 (8 * max (wrap64 (((str xs).size : Nat) - 1 : Int)) 0) = E at *
  have hEE : a < 0 ∨ E ≤ a := by omega
  clear hE ha hl p0 p1 p2 p3
  generalize wrap64 (((str xs).size : Nat) - 1 : Int) = E2 at *
  rcases hEE with h0 | h1
  · go_wp2
    go_ret
    exact ⟨rfl, hb⟩
  · by_cases h0 : a < 0
    · go_wp2
      go_ret
      exact ⟨rfl, hb⟩
    · have h2 : a ≥ E := h1
      clear h1
      go_wp2
      go_ret
      exact ⟨rfl, hb⟩

set_option maxRecDepth 20000 in
set_option maxHeartbeats 4000000 in
theorem nturn_ok (B b : Nat) (m : Int) (l : List Tg) (k a bits : Nat) (W : World) (h : NetAt B b m l W) (hB : B ≤ W.heap.size) (hk : k < l.length) (ht : l[k].t = false) (hl : l[k].s.length ≤ 100000) (ha : 1 + a / 8 < l[k].s.length) (hbt : bits < 4294967296) : Calls Try.prog 32 #[.pointer (some ⟨b, 0, none⟩), .int .i64 (k : Int), .int .i64 (a : Int), .int .u32 (bits : Int)] W fun e w' => e = .returned (.int .i64 0) ∧ NetAt B b m (l.set k ⟨l[k].from', l[k].to', trs l[k].s a bits 32, true⟩) w' ∧ Below B W w' ∧ Othr b W w' := by
  have HF := hid (nfind_any B b m l (k : Int) W h)
  rw [if_neg (by omega)] at HF
  obtain ⟨g, c, c1, y0, y1, y2, y3⟩ := h.cells k hk
  have HN := hid h
  have hk2 : (k : Int) < (l.length : Int) := by omega
  have hk0 : ¬ (k : Int) < 0 := by omega
  rw [ht] at y3
  have HX : Hid (∃ x, x = l[k]) := hid ⟨_, rfl⟩
  obtain ⟨x, hx⟩ := HX.out
  rw [← hx] at y0 y1 y2 hl ha ⊢
  have HLX := hid hx
  clear HX hx ht h
  obtain ⟨xf, xt, xs, xb⟩ := x
  simp only at y0 y1 y2 ha hl ⊢
  go_enter Try.func32, Try.ntmps32
  go_wp2_with fail
  refine HF.out.mono ?_
  rintro e w1 ⟨rfl, rfl⟩
  go_upto_region 5 with (fail)
  have hal : Below W.heap.size W (W.alloc (.cells #[.int .i64 xf, .int .i64 xt, .string (str xs), .bool false] 60)) := bel_alloc (Below.refl _ _) _
  refine at_world (fun u => u.heap[W.heap.size]? = some (.cells #[.int .i64 xf, .int .i64 xt, .string (str xs), .bool false] 60 (0, 0)) ∧ Below W.heap.size W u) ⟨heap_alloc_new _ _, hal⟩ ?_
  clear hal y0 y1 y2 y3 c1 HF
  rintro w2 ⟨hx, hb⟩
  have HX := hid hx
  have HB := hid hb
  obtain ⟨⟨p0, p1, p2, p3⟩, fz⟩ := four_cells hx
  clear hx hb fz
  go_upto_region 8 with (fail)
  have hE := end_eq xs hl
  generalize wrap64 (8 * max (wrap64 (((str xs).size : Nat) - 1 : Int)) 0) = E at *
  generalize wrap64 (((str xs).size : Nat) - 1 : Int) = E2 at *
  have h0 : ¬ (a : Int) < 0 := by omega
  have h1 : ¬ (a : Int) ≥ E := by omega
  have HE := hid hE
  clear hE
  obtain ⟨w3, cB, hcv, hB3, hb3, hs3⟩ := bytes_brow w2 (str xs) (by rw [str_size]; omega)
  rw [show (str xs).data.toList = xs by simp [str]] at hB3
  rw [str_size] at hcv
  have HB3 := hid hB3
  have HL3 := hid hb3
  clear hB3 hb3 hs3
  go_upto_region 11 with (fail)
  clear h0 h1 p0 p1 p2 p3 hcv
  go_loopw [2, 3] (fun i q wr => ∃ (n p u : Nat), n ≤ 32 ∧ i = .int .i64 (p : Int) ∧ q = .int .u32 (u : Int) ∧ Hid (p = a + n ∧ u = bits / 2 ^ n) ∧ Hid (BRow wr w2.heap.size cB (trs xs a bits n)) ∧ Hid (Below w2.heap.size w2 wr)) (fun i _ _ => 32 + a - (intOf i).toNat)
  case atStart => exact ⟨0, a, bits, by omega, rfl, rfl, by simp [Hid], HB3.out, HL3.out⟩
  case round =>
    obtain ⟨n, p, u, hn, rfl, rfl, HPU, HR, HL⟩ := hrel
    have hu32 : u < 4294967296 := by
      rw [HPU.out.2]
      exact Nat.lt_of_le_of_lt (Nat.div_le_self _ _) hbt
    by_cases hu : u = 0
    · subst hu
      have hz0 : (((0 : Nat) : Int) == 0) = true := rfl
      have hT : trs xs a bits n = trs xs a bits 32 := (trs_end hn (by exact .inl HPU.out.2.symm)).symm
      rw [hT] at HR
      clear hT
      have hlen := trs_len xs a bits 32
      have hcv := conv_str (P := Try.prog) (src := 85) (dst := 9) Try.underlying85 Try.underlying5 Try.underlying9 HR.out.bytes
      rw [hlen, show (⟨(trs xs a bits 32).toArray⟩ : ByteArray) = str (trs xs a bits 32) from rfl] at hcv
      have HXR := hid (keep0 HX.out HL.out)
      have HLW := hid (HB.out.trans (HL.out.mono HB.out.size))
      have HNR := hid (HN.out.below HLW.out)
      clear hlen HR HPU
      generalize hys : trs xs a bits 32 = ys at *
      have HYS := hid hys
      clear hys
      obtain ⟨⟨p0, p1, p2, p3⟩, fz0, fz1, fz2, fz3⟩ := four_cells HXR.out
      go_upto_region 17 with (fail)
      refine at_world (fun u => u.heap[W.heap.size]? = some (.cells #[.int .i64 xf, .int .i64 xt, .string (str ys), .bool true] 60 (0, 0)) ∧ Only W.heap.size wr u) ⟨?a1, ?a2⟩ ?a3
      case a1 => exact (set_cells2 HXR.out _ _)
      case a2 => exact ((Only.refl _ _).set _ _).set _ _
      case a3 =>
        clear p0 p1 p2 p3 fz0 fz1 fz2 fz3 hcv
        rintro w5 ⟨hx, ho⟩
        have hb5 : Below W.heap.size W w5 := HLW.out.trans (ho.below _ (Nat.le_refl _) HLW.out.size)
        obtain ⟨hBb, A9, c9, h1, h2⟩ := HN.out.below hb5
        obtain ⟨g9, cap9, hA9, hg9, hn9, hm9, hcl, hob, hgl⟩ := own_open h2 (by omega) (by omega)
        cases hA9
        have HH1 := hid h1
        have HH2 := hid h2
        obtain ⟨e0, f0⟩ := hcl (k * 4) (by rw [tcells_length]; omega)
        obtain ⟨e1, f1⟩ := hcl (k * 4 + 1) (by rw [tcells_length]; omega)
        obtain ⟨e2, f2⟩ := hcl (k * 4 + 2) (by rw [tcells_length]; omega)
        obtain ⟨e3, f3⟩ := hcl (k * 4 + 3) (by rw [tcells_length]; omega)
        have HPT := hid (NetAt.put hBb h1 h2 k (by omega) ⟨xf, xt, ys, true⟩)
        have HBB := hid hb5
        clear hob hcl hn9 hm9 hgl h2 HN HNR HLW hb5 HX HXR
        obtain ⟨n0, n1, nf0, nf1⟩ := two_cells h1
        obtain ⟨⟨p0, p1, p2, p3⟩, fz0, fz1, fz2, fz3⟩ := four_cells hx
        clear h1 hx ho
        go_region
        refine at_world (fun v => NetAt B b m (l.set k ⟨xf, xt, ys, true⟩) v ∧ Below B W v ∧ Othr b W v) ?c1 ?c2
        case c1 =>
          have h9 := HPT.out
          rw [← put4_eq w5 g9 k xf xt ys true]
          exact ⟨h9.1, (HBB.out.mono hB).trans (below_drew ((put4_only _ _ _ _).below B h9.2.2 (Nat.le_trans hB HBB.out.size))), (Othr.of_below HBB.out).trans h9.2.1⟩
        case c2 =>
          clear p0 p1 p2 p3 fz0 fz1 fz2 fz3 n0 n1 nf0 nf1 e0 e1 e2 e3 f0 f1 f2 f3
          rintro w6 ⟨hn6, hb6, ho6⟩
          have HR6 := hid (And.intro hn6 (And.intro hb6 ho6))
          clear hn6 hb6 ho6
          go_wp2
          go_ret
          exact ⟨rfl, by rw [HYS.out]; exact HR6.out.1, HR6.out.2.1, HR6.out.2.2⟩
    · have hu2 : ((u : Int) == 0) = false := by simp; omega
      have hu3 : ((u : Int) != 0) = true := by simp; omega
      by_cases hp : (p : Int) < E
      · have hpl : 1 + p / 8 < xs.length := by have := HE.out; omega
        obtain ⟨c1, c2⟩ := HR.out.cell (1 + p / 8) (by rw [trs_len]; exact hpl)
        generalize hcc : (trs xs a bits n).getD (1 + p / 8) 0 = cc at c1
        have HCC := hid hcc
        clear hcc
        have hcb := cc.toNat_lt
        have HXX := hid (flip_byte cc (p % 8) (by omega))
        have HSO := hid (HR.out.set (1 + p / 8) (UInt8.ofNat (cc.toNat ^^^ 2 ^ (p % 8))) (by rw [trs_len]; exact hpl))
        have HSE := hid (HR.out.set (1 + p / 8) cc (by rw [trs_len]; exact hpl))
        have hlen := trs_len xs a bits n
        have HSE2 : Hid ((trs xs a bits n).set (1 + p / 8) cc = trs xs a bits n) := hid (by
          rw [← HCC.out, List.getD_eq_getElem?_getD, List.getElem?_eq_getElem (by rw [hlen]; exact hpl)]
          simp)
        have hn32 : n < 32 := by
          rcases Nat.lt_or_ge n 32 with h | h
          · exact h
          · exfalso
            obtain rfl : n = 32 := by omega
            apply hu
            rw [HPU.out.2]
            exact Nat.div_eq_of_lt hbt
        have HN1 : Hid (trs xs a bits (n + 1) = if u % 2 = 1 then (trs xs a bits n).set (1 + p / 8) (UInt8.ofNat (cc.toNat ^^^ 2 ^ (p % 8))) else trs xs a bits n) := hid (by
          rw [trs, flB, ← HPU.out.1, ← HPU.out.2, HCC.out]
          by_cases ho : u % 2 = 1
          · rw [if_pos ⟨ho, hpl⟩, if_pos ho]
          · rw [if_neg (fun h => ho h.1), if_neg ho])
        have HNX : Hid (p + 1 = a + (n + 1) ∧ u / 2 = bits / 2 ^ (n + 1)) := hid ⟨by have := HPU.out.1; omega, by rw [div_next, ← HPU.out.2]⟩
        go_upto_region 13 with (fail)
        go_region
        refine at_world (fun v => BRow v w2.heap.size cB (trs xs a bits (n + 1)) ∧ Below w2.heap.size w2 v) ⟨?b1, ?b2⟩ ?b3
        case b2 => exact below_drew (HL.out.setCell (Nat.le_refl _) _)
        case b1 =>
          rw [HN1.out]
          by_cases ho : u % 2 = 1
          · rw [if_pos ho, turn_odd _ _ _ hcb hu32 (by omega) ho]
            have h9 := HSO.out
            rw [HXX.out.1] at h9
            exact h9
          · rw [if_neg ho, turn_even _ _ _ hcb hu32 (by omega)]
            have h9 := HSE.out
            rw [HSE2.out] at h9
            exact h9
        case b3 =>
          clear HSO HSE HSE2 HXX HN1 c1 c2 hcb
          rintro w5 ⟨hr, hb⟩
          have HR5 := hid hr
          have HL5 := hid hb
          clear hr hb
          go_wp2
          go_roundw
          case rel => exact ⟨n + 1, p + 1, u / 2, by omega, by go_num, by first | rfl | simp, HNX.out, HR5.out, HL5.out⟩
          case measure => simp [intOf]; have := HPU.out.1; omega
      · have hpl : xs.length ≤ 1 + (a + n) / 8 := by have := HE.out; have := HPU.out.1; omega
        have hT : trs xs a bits n = trs xs a bits 32 := (trs_end hn (by exact .inr hpl)).symm
        rw [hT] at HR
        clear hT
        have hlen := trs_len xs a bits 32
        have hcv := conv_str (P := Try.prog) (src := 85) (dst := 9) Try.underlying85 Try.underlying5 Try.underlying9 HR.out.bytes
        rw [hlen, show (⟨(trs xs a bits 32).toArray⟩ : ByteArray) = str (trs xs a bits 32) from rfl] at hcv
        have HXR := hid (keep0 HX.out HL.out)
        have HLW := hid (HB.out.trans (HL.out.mono HB.out.size))
        have HNR := hid (HN.out.below HLW.out)
        clear hlen HR HPU
        generalize hys : trs xs a bits 32 = ys at *
        have HYS := hid hys
        clear hys
        obtain ⟨⟨p0, p1, p2, p3⟩, fz0, fz1, fz2, fz3⟩ := four_cells HXR.out
        go_upto_region 17 with (fail)
        refine at_world (fun u => u.heap[W.heap.size]? = some (.cells #[.int .i64 xf, .int .i64 xt, .string (str ys), .bool true] 60 (0, 0)) ∧ Only W.heap.size wr u) ⟨?a1, ?a2⟩ ?a3
        case a1 => exact (set_cells2 HXR.out _ _)
        case a2 => exact ((Only.refl _ _).set _ _).set _ _
        case a3 =>
          clear p0 p1 p2 p3 fz0 fz1 fz2 fz3 hcv
          rintro w5 ⟨hx, ho⟩
          have hb5 : Below W.heap.size W w5 := HLW.out.trans (ho.below _ (Nat.le_refl _) HLW.out.size)
          obtain ⟨hBb, A9, c9, h1, h2⟩ := HN.out.below hb5
          obtain ⟨g9, cap9, hA9, hg9, hn9, hm9, hcl, hob, hgl⟩ := own_open h2 (by omega) (by omega)
          cases hA9
          have HH1 := hid h1
          have HH2 := hid h2
          obtain ⟨e0, f0⟩ := hcl (k * 4) (by rw [tcells_length]; omega)
          obtain ⟨e1, f1⟩ := hcl (k * 4 + 1) (by rw [tcells_length]; omega)
          obtain ⟨e2, f2⟩ := hcl (k * 4 + 2) (by rw [tcells_length]; omega)
          obtain ⟨e3, f3⟩ := hcl (k * 4 + 3) (by rw [tcells_length]; omega)
          have HPT := hid (NetAt.put hBb h1 h2 k (by omega) ⟨xf, xt, ys, true⟩)
          have HBB := hid hb5
          clear hob hcl hn9 hm9 hgl h2 HN HNR HLW hb5 HX HXR
          obtain ⟨n0, n1, nf0, nf1⟩ := two_cells h1
          obtain ⟨⟨p0, p1, p2, p3⟩, fz0, fz1, fz2, fz3⟩ := four_cells hx
          clear h1 hx ho
          go_region
          refine at_world (fun v => NetAt B b m (l.set k ⟨xf, xt, ys, true⟩) v ∧ Below B W v ∧ Othr b W v) ?c1 ?c2
          case c1 =>
            have h9 := HPT.out
            rw [← put4_eq w5 g9 k xf xt ys true]
            exact ⟨h9.1, (HBB.out.mono hB).trans (below_drew ((put4_only _ _ _ _).below B h9.2.2 (Nat.le_trans hB HBB.out.size))), (Othr.of_below HBB.out).trans h9.2.1⟩
          case c2 =>
            clear p0 p1 p2 p3 fz0 fz1 fz2 fz3 n0 n1 nf0 nf1 e0 e1 e2 e3 f0 f1 f2 f3
            rintro w6 ⟨hn6, hb6, ho6⟩
            have HR6 := hid (And.intro hn6 (And.intro hb6 ho6))
            clear hn6 hb6 ho6
            go_wp2
            go_ret
            exact ⟨rfl, by rw [HYS.out]; exact HR6.out.1, HR6.out.2.1, HR6.out.2.2⟩
end Go.Proofs.Ytdphdodjidbngaa
