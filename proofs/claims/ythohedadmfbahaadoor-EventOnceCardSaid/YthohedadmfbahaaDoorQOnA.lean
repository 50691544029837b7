/- ONCE: siskinlaw39.has of an event that is there. -/
import Derived.Test.YthohedadmfbahaaDoorQEvH
import Derived.Laws.StructEq
namespace Go.Proofs.YthohedadmfbahaaDoor
open Go.RowKit Go.Sort
set_option linter.unusedVariables false
set_option linter.unusedSimpArgs false

theorem below_drewNO (W : World) (q : Nat) : RowKit.Below W.heap.size W (W.drewN q) := ⟨rfl, rfl, rfl, Nat.le_refl _, fun _ _ => rfl⟩
def evA (e : Ev) : Array Value := #[.int .i64 e.kd, .int .i64 e.j, .int .i64 e.t, .int .i64 e.w]
theorem ev_cmp (a b : Ev) (w : World) : (Op.equalIn 10000 37 (.agg (evA a)) (.agg (evA b))).run Tryd.prog w = .ok (decide (a.kd = b.kd ∧ a.j = b.j ∧ a.t = b.t ∧ a.w = b.w)) w := by
  have hl : (Tryd.prog.fieldsOf 37).toList.map (fun f => (f.name, f.type, f.offset)) = [("Kind", 3, 0), ("Job", 3, 1), ("Task", 3, 2), ("Worker", 3, 3)] := by kernel_rfl
  have h1 := run_equalIn_struct (P := Tryd.prog) w 9999 37 (evA a) (evA b) (by kernel_rfl) (by kernel_rfl)
  rw [h1]
  clear h1
  have hpk : Tryd.prog.plainKey 3 = true := by kernel_rfl
  have hu : Tryd.prog.underlying 3 = some (.int .i64) := Tryd.underlying3
  have p0 : ∀ e : Ev, (part 3 (evA e) 0).run Tryd.prog w = .ok (.int .i64 e.kd) w := fun e => run_part_plain (P := Tryd.prog) w hpk (xs := evA e) (off := 0) (v := .int .i64 e.kd) rfl
  have p1 : ∀ e : Ev, (part 3 (evA e) 1).run Tryd.prog w = .ok (.int .i64 e.j) w := fun e => run_part_plain (P := Tryd.prog) w hpk (xs := evA e) (off := 1) (v := .int .i64 e.j) rfl
  have p2 : ∀ e : Ev, (part 3 (evA e) 2).run Tryd.prog w = .ok (.int .i64 e.t) w := fun e => run_part_plain (P := Tryd.prog) w hpk (xs := evA e) (off := 2) (v := .int .i64 e.t) rfl
  have p3 : ∀ e : Ev, (part 3 (evA e) 3).run Tryd.prog w = .ok (.int .i64 e.w) w := fun e => run_part_plain (P := Tryd.prog) w hpk (xs := evA e) (off := 3) (v := .int .i64 e.w) rfl
  have pe : ∀ x y : Int, (Op.equalIn 9999 3 (.int .i64 x) (.int .i64 y)).run Tryd.prog w = .ok (x == y) w := fun x y => run_equalIn_int w 9998 3 .i64 .i64 x y hu
  generalize (Tryd.prog.fieldsOf 37).toList = fs at hl ⊢
  rcases fs with _ | ⟨⟩
  · simp at hl
  rename_i f0 fs
  rcases fs with _ | ⟨⟩
  · simp at hl
  rename_i f1 fs
  rcases fs with _ | ⟨⟩
  · simp at hl
  rename_i f2 fs
  rcases fs with _ | ⟨⟩
  · simp at hl
  rename_i f3 fs
  rcases fs with _ | ⟨⟩
  rotate_left
  · simp at hl
  simp only [List.map_cons, List.map_nil, List.cons.injEq, Prod.mk.injEq, and_true] at hl
  obtain ⟨⟨n0, t0, o0⟩, ⟨n1, t1, o1⟩, ⟨n2, t2, o2⟩, ⟨n3, t3, o3⟩⟩ := hl
  simp only [Op.eqFields, n0, n1, n2, n3, t0, t1, t2, t3, o0, o1, o2, o3, Sem.run_bind, Sem.run_ite, p0, p1, p2, p3, pe, Result.andThen_ok, Sem.run_pure]
  by_cases h0 : a.kd = b.kd <;> by_cases h1 : a.j = b.j <;> by_cases h2 : a.t = b.t <;> by_cases h3 : a.w = b.w <;> simp [h0, h1, h2, h3]
theorem ev_run (a b : Ev) (r : Bool) (h : r = true ↔ a = b) (w : World) : (binOp .eql 37 (.agg #[.int .i64 a.kd, .int .i64 a.j, .int .i64 a.t, .int .i64 a.w]) (.agg #[.int .i64 b.kd, .int .i64 b.j, .int .i64 b.t, .int .i64 b.w])).run Tryd.prog w = .ok (.bool r) w := by
  have h1 : r = decide (a.kd = b.kd ∧ a.j = b.j ∧ a.t = b.t ∧ a.w = b.w) := by
    obtain ⟨a1, a2, a3, a4⟩ := a
    obtain ⟨b1, b2, b3, b4⟩ := b
    cases r
    · simp at h ⊢; simpa using h
    · simp at h ⊢; simpa using h
  rw [h1]
  exact (run_eql_struct w _ _ _).trans (by rw [show (#[.int .i64 a.kd, .int .i64 a.j, .int .i64 a.t, .int .i64 a.w] : Array Value) = evA a from rfl, show (#[.int .i64 b.kd, .int .i64 b.j, .int .i64 b.t, .int .i64 b.w] : Array Value) = evA b from rfl, ev_cmp]; rfl)

set_option maxRecDepth 20000 in
set_option maxHeartbeats 1000000 in
theorem has_yes (L : Option Addr) (c : Nat) (D : List Ev) (kd j t w : Int) (W : World) (hL : Sl W 4 L D.length c (gcells evl D)) (hm : (⟨kd, j, t, w⟩ : Ev) ∈ D) :
    Calls Tryd.prog 8 #[.slice L D.length c, .agg #[.int .i64 kd, .int .i64 j, .int .i64 t, .int .i64 w]] W fun e w' => e = .returned (.bool true) ∧ RowKit.Below W.heap.size W w' := by
  have HEL := hid (fun u (hu : RowKit.Below W.heap.size W u) k (hk : k < D.length) => Sl.gat (f := evl) (n := 4) evl_len (hL.below hu) k hk (by omega))
  have HM := hid hm
  have hdl : D.length ≤ maxLen := Nat.le_trans hL.2.1 hL.2.2.1
  unfold maxLen at hdl
  clear hL hm
  go_enter Tryd.func8, Tryd.ntmps8
  go_upto_region 1 with (fail)
  refine at_world (fun u => u.heap[W.heap.size]? = some (.cells #[.int .i64 kd, .int .i64 j, .int .i64 t, .int .i64 w] 37 (0, 0)) ∧ RowKit.Below W.heap.size W u) ⟨heap_alloc_new _ _, bel_alloc (RowKit.Below.refl _ _) _⟩ ?_
  rintro w1 ⟨hq, hb⟩
  have HB1 := hid hb
  have HQ1 := hid hq
  clear hq hb
  generalize hQ : W.heap.size = Q at HQ1
  clear hQ
  go_wp2
  go_loopw [5] (fun i wr => ∃ n : Nat, n ≤ D.length ∧ i = .int .i64 (n : Int) ∧ Hid ((⟨kd, j, t, w⟩ : Ev) ∉ D.take n) ∧ Hid (RowKit.Below w1.heap.size w1 wr)) (fun i _ => D.length - (intOf i).toNat)
  case atStart => exact ⟨0, by omega, rfl, by simp [Hid], RowKit.Below.refl _ _⟩
  case round =>
    obtain ⟨n, hn9, rfl, HT, HB⟩ := hrel
    have HBW := hid (HB1.out.trans (HB.out.mono HB1.out.size))
    have HQ2 := hid (keep0 HQ1.out HB.out)
    by_cases hlt : n < D.length
    · have hlt2 : (n : Int) < (D.length : Int) := by omega
      have hn0 : ¬ (n : Int) < 0 := by omega
      obtain ⟨b, off, hA, hc⟩ := HEL.out wr HBW.out n hlt
      subst hA
      have q0 := hc 0 _ rfl
      have q1 := hc 1 _ rfl
      have q2 := hc 2 _ rfl
      have q3 := hc 3 _ rfl
      have HE := hid (fun (r : Bool) (h : r = true ↔ D[n] = ⟨kd, j, t, w⟩) (u : World) => ev_run D[n] ⟨kd, j, t, w⟩ r h u)
      have HT2 := hid (fun (h : ¬ D[n] = ⟨kd, j, t, w⟩) => show (⟨kd, j, t, w⟩ : Ev) ∉ D.take (n + 1) from by
        rw [List.take_succ_eq_append_getElem hlt, List.mem_append, List.mem_singleton]
        rintro (h1 | h1)
        · exact HT.out h1
        · exact h h1.symm)
      clear hc
      obtain ⟨p0, p1, p2, p3⟩ := four_cellsE HQ2.out
      generalize D[n] = ev at *
      obtain ⟨kd', j', t', w''⟩ := ev
      simp only [evl, Nat.add_zero] at q0 q1 q2 q3
      by_cases hcmp : (⟨kd', j', t', w''⟩ : Ev) = ⟨kd, j, t, w⟩
      · have he := HE.out true (iff_of_true rfl hcmp)
        simp only at he
        clear hcmp HT2 HE
        go_upto_region 4 with (fail)
        go_quiet (fail)
        go_wp2
        go_ret
        exact ⟨rfl, HBW.out.trans ((below_drewNO wr _).mono HBW.out.size)⟩
      · have he := HE.out false (iff_of_false (by simp) hcmp)
        simp only at he
        have HT3 := hid (HT2.out hcmp)
        clear hcmp HT2 HE
        go_upto_region 4 with (fail)
        go_quiet (fail)
        go_wp2
        go_roundw
        case rel => exact ⟨n + 1, by omega, by go_num, HT3, hid (HB.out.trans ((below_drewNO wr _).mono HB.out.size))⟩
        case measure => simp [intOf]; omega
    · obtain rfl : n = D.length := by omega
      exfalso
      rw [List.take_length] at HT
      exact HT.out HM.out
end Go.Proofs.YthohedadmfbahaaDoor
