/- annal: Append in all cases; what stays; the records of what was cut, and of what was appended. -/
import Derived.Test.YtkepfkfoblocgaaAnnC
import Derived.Test.YtkepfkfoblocgaaScnL
namespace Go.Proofs.Ytkepfkfoblocgaa
open Go.RowKit
set_option linter.unusedVariables false
set_option linter.unusedSimpArgs false

theorem apE_cases (room : Nat) (l m : List UInt8) (armed : Bool) : apE room l m armed = 7 ∨ apE room l m armed = 14 ∨ apE room l m armed = 0 := by
  unfold apE
  split
  · exact .inl rfl
  · split
    · exact .inr (.inl rfl)
    · exact .inr (.inr rfl)
theorem aappend_any {B G D room : Nat} {l : List UInt8} {armed : Bool} {fuse : Nat} {A : Option Addr} {c : Nat} {els : List El} {down : Bool} (x : Rc) (Ax : Option Addr) (cx : Nat) (W : World) (h : AnAt W B G D room l armed fuse A c els down) (hx : TxAt W Ax cx x.ns) (hB : B ≤ W.heap.size) (hGD : G ≠ D) (hr : room ≤ 65536) (hl : l.length ≤ room) (hn : els.length ≤ 100000) :
    Calls Try.prog 52 #[.pointer (some ⟨G, 0, none⟩), .agg (rcc x Ax cx)] W (AppR W B G D room l armed fuse A c els down x) := by
  cases hc : chkR x with
  | false => exact aappend_bad x Ax cx W h hx hc
  | true =>
    cases down with
    | true => exact aappend_down x Ax cx W h hx hc
    | false =>
      rcases apE_cases room l (fR x) armed with he | he | he
      · exact aappend_full x Ax cx W h hx hB hGD hr hl hn hc he
      · exact aappend_power x Ax cx W h hx hB hGD hr hl hn hc he
      · exact aappend_ok x Ax cx W h hx hB hGD hr hl hn hc he
theorem RowR.only {w w' : World} {B D room : Nat} {l : List UInt8} {armed : Bool} {fuse : Nat} {v : Value} {els : List El} (h : RowR w B v els) (hd : DiskAt w D room l armed fuse) (ho : Only D w w') : RowR w' B v els := by
  obtain ⟨A9, c9, h9, _⟩ := hd.open
  exact h.apart h9 (by decide) (by decide) (Tch.of_only (S := fun g => g = D) ho rfl hd.lt)
theorem AnAt.only {w w' : World} {B G D room : Nat} {l l2 : List UInt8} {armed armed2 : Bool} {fuse fuse2 : Nat} {A : Option Addr} {c : Nat} {els : List El} {down : Bool} (h : AnAt w B G D room l armed fuse A c els down) (hd : DiskAt w' D room l2 armed2 fuse2) (ho : Only D w w') (hne : G ≠ D) : AnAt w' B G D room l2 armed2 fuse2 A c els down :=
  ⟨ho.block h.1 hne, hd, h.2.2.only h.2.1 ho⟩
/-- Another row of records stays at an append. -/
theorem RowR.append {w w' : World} {B B2 G D room : Nat} {l : List UInt8} {armed : Bool} {fuse : Nat} {A : Option Addr} {c : Nat} {els els2 : List El} {down : Bool} {v : Value} (h : RowR w B v els) (ha : AnAt w B2 G D room l armed fuse A c els2 down) (hs : ∀ g, v.ownBlock = some g → (Value.slice A els2.length c).ownBlock ≠ some g)
    (ht : Tch (fun g => g = D ∨ g = G ∨ (Value.slice A els2.length c).ownBlock = some g) w w') : RowR w' B v els := by
  obtain ⟨A9, c9, h9, _⟩ := ha.2.1.open
  refine ⟨ht.own h.1 fun g hg hS => ?_, fun e he => ⟨ht.own (h.2 e he).1 fun g hg hS => ?_, (h.2 e he).2⟩⟩
  · rcases hS with h1 | h1 | h1
    · exact own_apart_blk h.1 h9 (by decide) g hg h1
    · exact own_apart_blk h.1 ha.1 (by decide) g hg h1
    · exact hs g hg h1
  · rcases hS with h1 | h1 | h1
    · exact own_apart_blk (h.2 e he).1 h9 (by decide) g hg h1
    · exact own_apart_blk (h.2 e he).1 ha.1 (by decide) g hg h1
    · exact own_apart (h.2 e he).1 ha.2.2.1 (by decide) g hg h1
theorem recS_chk : ∀ n l, l.length ≤ n → ∀ x ∈ (recS l).1, chkR x = true
  | n, l, hn, x, hx => by
    by_cases h : okR l
    · have := cutS_used l h.1
      cases n with
      | zero => omega
      | succ n =>
        rw [recS_step l h] at hx
        rcases List.mem_cons.1 hx with rfl | hx
        · exact (pr_ok _ h.2).1
        · exact recS_chk n _ (by rw [List.length_drop]; omega) x hx
    · rw [recS_stop l h] at hx
      cases hx
theorem recS_len2 (l : List UInt8) : (l.take (recS l).2).length = (recS l).2 := by
  have h := (recS_le l.length l (Nat.le_refl _)).1
  rw [List.length_take]
  omega
theorem recB_pre (l : List UInt8) : recB (recS l).1 = l.take (recS l).2 := rec_back l.length l (Nat.le_refl _)
/-- The valid prefix is found again, whole. -/
theorem recS_pre (l : List UInt8) : recS (l.take (recS l).2) = ((recS l).1, (recS l).2) := by
  have h := rec_whole (recS l).1 (recS_chk l.length l (Nat.le_refl _))
  rw [recB_pre, recS_len2] at h
  exact h
/-- A record appended behind it is found. -/
theorem recS_app (l : List UInt8) (x : Rc) (hx : chkR x = true) : recS (l.take (recS l).2 ++ fR x) = ((recS l).1 ++ [x], (l.take (recS l).2 ++ fR x).length) := by
  have h := rec_whole ((recS l).1 ++ [x]) (fun y hy => by
    rcases List.mem_append.1 hy with hy | hy
    · exact recS_chk l.length l (Nat.le_refl _) y hy
    · obtain rfl : y = x := by simpa using hy
      exact hx)
  rw [recB_snoc, recB_pre] at h
  exact h
theorem recS_ns (l : List UInt8) : ∀ x ∈ (recS l).1, x.ns.length ≤ 16 := fun x hx => (chkR_ns (recS_chk l.length l (Nat.le_refl _) x hx)).1
theorem els_ns {els : List El} {l : List UInt8} (h : els.map (·.1) = (recS l).1) : ∀ e ∈ els, e.1.ns.length ≤ 100000 := fun e he => by
  have h1 : e.1 ∈ (recS l).1 := by rw [← h]; exact List.mem_map_of_mem he
  have := recS_ns l e.1 h1
  omega
theorem els_len {els : List El} {l : List UInt8} (h : els.map (·.1) = (recS l).1) : els.length ≤ l.length := by
  have h1 := congrArg List.length h
  rw [List.length_map] at h1
  have := recS_le l.length l (Nat.le_refl _)
  omega
/-- A row that was there before a world is not one made later. -/
theorem own_sep {w : World} {B B' e e' s s' n n' : Nat} {v v' : Value} {xs xs' : List Value} (h : w.ownsRow B e s v n xs) (hB : ∀ g, v.ownBlock = some g → g < B') (h' : w.ownsRow B' e' s' v' n' xs') (g : Nat) (hg : v.ownBlock = some g) : v'.ownBlock ≠ some g := fun hg' => by
  have h1 := (own_lt h' g hg').1
  have h2 := hB g hg
  omega
end Go.Proofs.Ytkepfkfoblocgaa
