/- Clocks: the closures that look for a place. -/
import Derived.Test.YtpemnficdhjkhaaCkO
import Derived.Shelf.SlSorted.Search
import Derived.BigQuiet
namespace Go.Proofs.Ytpemnficdhjkhaa
open Go.RowKit Go.Maps

/-- Only draws, and new blocks. -/
def Gw (w W : World) : Prop := ∃ q os, W = Sort.grow (w.drewN q) os
theorem Gw.refl (w : World) : Gw w w := ⟨0, #[], by rw [Sort.grow_empty]; rfl⟩
theorem Gw.drewN {w W : World} (h : Gw w W) (n : Nat) : Gw w (W.drewN n) := by
  obtain ⟨q, os, rfl⟩ := h
  exact ⟨q + n, os, by
    show Sort.grow ((w.drewN q).drewN n) os = _
    rw [World.drewN_drewN]⟩
theorem Gw.trans {a b c : World} (h : Gw a b) (k : Gw b c) : Gw a c := by
  obtain ⟨q, os, rfl⟩ := h
  obtain ⟨q', os', rfl⟩ := k
  exact ⟨q + q', os ++ os', by
    show Sort.grow (Sort.grow ((a.drewN q).drewN q') os) os' = _
    rw [Sort.grow_grow, World.drewN_drewN]⟩
theorem Gw.alloc {w W : World} (h : Gw w W) (o : Obj) : Gw w (W.alloc o) := by
  obtain ⟨q, os, rfl⟩ := h
  exact ⟨q, os ++ #[o], by rw [← Sort.grow_grow, Sort.alloc_eq_grow]⟩
theorem Gw.upd {w W : World} (h : Gw w W) : Upd [] w W := by
  obtain ⟨q, os, rfl⟩ := h
  exact ⟨rfl, rfl, rfl, by simp [Sort.grow, World.drewN], fun k hk _ => Sort.heap_grow_old (w.drewN q) os hk⟩

/-- What the closure of place asks. -/
def pl (T : TF) (its pid other : Int) : Bool := decide (its < tmAt T other) || (decide (tmAt T other = its) && decide (pid ≤ other))

set_option maxRecDepth 10000 in
theorem place1_any {w : World} {c n g : Nat} {v : Value} {gb : Option Nat} {now : Int} {T : TF} {xs : List Int} (o : CkR w c n g v gb now T xs) {W : World} (hu : Upd [] w W) {bc bi bp : Nat} {its pid x : Int}
    (h1 : W.cell? ⟨bc, 0, none⟩ = some (.pointer (some ⟨c, 0, none⟩))) (h2 : W.cell? ⟨bi, 0, none⟩ = some (.int .i64 its)) (h3 : W.cell? ⟨bp, 0, none⟩ = some (.int .i64 pid)) (hx : I64 x) :
    Calls Try.prog 53 #[.int .i64 x, .pointer (some ⟨bc, 0, none⟩), .pointer (some ⟨bi, 0, none⟩), .pointer (some ⟨bp, 0, none⟩)] W fun e W' => e = .returned (.bool (pl T its pid x)) ∧ W' = W := by
  have o' := o.upd hu
  have c2 : W.cell? ⟨c, 2, none⟩ = some (.map (some g)) := by rw [o'.row.cell]; rfl
  have e1 := o'.times.look hx
  clear o o' hu
  unfold pl
  generalize tmAt T x = t at e1 ⊢
  by_cases q1 : its < t
  · have d1 : decide (its < t) = true := by simpa using q1
    rw [d1]
    go_enter Try.func53, Try.ntmps53
    go_wp2
    go_ret
    exact ⟨by simp, rfl⟩
  · have d1 : decide (its < t) = false := by simpa using q1
    by_cases q2 : t = its
    · subst q2
      by_cases q3 : pid ≤ x
      · have d3 : decide (pid ≤ x) = true := by simpa using q3
        rw [d1, d3]
        go_enter Try.func53, Try.ntmps53
        go_wp2
        go_ret
        exact ⟨by simp, rfl⟩
      · have d3 : decide (pid ≤ x) = false := by simpa using q3
        rw [d1, d3]
        go_enter Try.func53, Try.ntmps53
        go_wp2
        go_ret
        exact ⟨by simp, rfl⟩
    · have d2 : (t == its) = false := by simpa using q2
      rw [d1]
      go_enter Try.func53, Try.ntmps53
      go_wp2
      go_ret
      exact ⟨by simp, rfl⟩

set_option maxRecDepth 10000 in
theorem tick1_any {w : World} {c n g : Nat} {v : Value} {gb : Option Nat} {now : Int} {T : TF} {xs : List Int} (o : CkR w c n g v gb now T xs) {W : World} (hu : Upd [] w W) {bc : Nat} {x : Int}
    (h1 : W.cell? ⟨bc, 0, none⟩ = some (.pointer (some ⟨c, 0, none⟩))) (hx : I64 x) :
    Calls Try.prog 30 #[.int .i64 x, .pointer (some ⟨bc, 0, none⟩)] W fun e W' => e = .returned (.bool (decide (now < tmAt T x))) ∧ ∃ m, W' = W.drewN m := by
  have o' := o.upd hu
  have c2 : W.cell? ⟨c, 2, none⟩ = some (.map (some g)) := by rw [o'.row.cell]; rfl
  have c1 : W.cell? ⟨c, 1, none⟩ = some (.int .i64 now) := by rw [o'.row.cell]; rfl
  have e1 := o'.times.look hx
  have e2 : ∀ m, (Instr.lookup 44 (.map (some g)) (.int .i64 x) false).run Try.prog (W.drewN m) = .ok (.int .i64 (tmAt T x)) (W.drewN m) := fun m => TmB.look (MapB.upP (P := fun _ => False) o'.times ((Upd.refl [] W).drewN m).toN (fun h => h)) hx
  clear o o' hu
  generalize tmAt T x = t at e1 e2 ⊢
  go_enter Try.func30, Try.ntmps30
  go_wp2
  go_quiet (fail)
  go_wp2
  go_ret
  exact ⟨rfl, _, rfl⟩

/-- f tells of each of xs what p does, in whatever world that has only drawn and grown since w. -/
def Tells (w : World) (f : Nat) (cb : Array Value) (p : Int → Bool) (xs : List Int) : Prop :=
  ∀ W, Gw w W → ∀ x, x ∈ xs → Calls Try.prog f (#[.int .i64 x] ++ cb) W fun e W' => e = .returned (.bool (p x)) ∧ ∃ m, W' = W.drewN m

end Go.Proofs.Ytpemnficdhjkhaa
