/- What stands while MailOrder goes on. -/
import Derived.Test.YtmdkhkeljpdbiaaMoM
namespace Go.Proofs.Ytmdkhkeljpdbiaa
open Go.RowKit

def IsPick (e : Ending) : Prop := ∃ r : Int, (r = 0 ∨ r = 1 ∨ r = 2 ∨ r = 3 ∨ r = 4) ∧ e = .returned (.int .i64 r)
set_option maxRecDepth 10000 in
theorem pick5 (x : Int) (w : World) : Calls Try.prog 22 #[.int .i64 x, .int .i64 5] w fun e w' => IsPick e ∧ w' = w := by
  have h1 := Int.tmod_lt_of_pos x (show (0 : Int) < 5 by decide)
  have h2 := Int.lt_tmod_of_pos x (show (0 : Int) < 5 by decide)
  have H : Hid (x.tmod 5 < 5 ∧ -5 < x.tmod 5) := ⟨h1, h2⟩
  clear h1 h2
  by_cases h : x.tmod 5 < 0
  · go_enter Try.func22, Try.ntmps22
    go_wp2
    go_ret
    have := H.out
    refine ⟨⟨_, ?_, rfl⟩, rfl⟩
    rw [show wrap64 (x.tmod 5 + 5) = x.tmod 5 + 5 by unfold wrap64; omega]
    omega
  · go_enter Try.func22, Try.ntmps22
    go_wp2
    go_ret
    have := H.out
    exact ⟨⟨_, by omega, rfl⟩, rfl⟩

/-- The table of those that have gone. -/
def Gb (w : World) (x : Nat) (g : Nat → Bool) : Prop := ∃ cs : Array Value, w.heap[x]? = some (.cells cs 51 (0, 0)) ∧ cs.size = 80 ∧ ∀ i, i < 80 → cs[i]? = some (.bool (g i))
theorem Gb.lt {w : World} {x : Nat} {g : Nat → Bool} (h : Gb w x g) : x < w.heap.size := by obtain ⟨_, h, _⟩ := h; exact lt_of_block h
theorem Gb.cell {w : World} {x : Nat} {g : Nat → Bool} (h : Gb w x g) {i : Nat} (hi : i < 80) : w.cell? ⟨x, i, none⟩ = some (.bool (g i)) := by
  obtain ⟨cs, h1, _, h2⟩ := h
  rw [cell_of_row _ _ _ _ _ _ h1]
  exact h2 i hi
theorem Gb.free {w : World} {x : Nat} {g : Nat → Bool} (h : Gb w x g) (i : Nat) : w.frozen? ⟨x, i, none⟩ = false := by
  obtain ⟨cs, h1, _, _⟩ := h
  exact frozen_of_row _ _ _ _ _ h1
theorem Gb.block {w w' : World} {x : Nat} {g : Nat → Bool} (h : Gb w x g) (e : w'.heap[x]? = w.heap[x]?) : Gb w' x g := by
  obtain ⟨cs, h1, h2⟩ := h
  exact ⟨cs, e.trans h1, h2⟩
theorem Gb.set {w : World} {x : Nat} {g : Nat → Bool} (h : Gb w x g) {i : Nat} (hi : i < 80) : Gb (w.setCell ⟨x, i, none⟩ (.bool true)) x (goneAt g i) := by
  obtain ⟨cs, h1, h2, h3⟩ := h
  refine ⟨cs.setIfInBounds i (.bool true), by rw [heap_setCell_same w x i _ _ _ h1], by simpa using h2, fun j hj => ?_⟩
  rw [Array.getElem?_setIfInBounds]
  unfold goneAt
  by_cases e : i = j
  · subst e
    rw [if_pos rfl, if_pos (by omega), if_pos rfl]
  · rw [if_neg e, if_neg (fun h => e h.symm)]
    exact h3 j hj

/-- What stands: the box, with those letters that are left, and the table. -/
structure Ord (w0 w : World) (b x : Nat) (v : Value) (c k : Nat) (g : Nat → Bool) : Prop where
  box : BoxV w b v ((left g c).map lf) k
  look : k ≤ (left g c).length
  gb : Gb w x g
  xb : x ≠ b
  xv : v.ownBlock ≠ some x
  new : ∀ j, c ≤ j → g j = false
  low : Upd [] w0 w
  bl : w0.heap.size ≤ b
  xl : w0.heap.size ≤ x
  vl : ∀ y, v.ownBlock = some y → w0.heap.size ≤ y
theorem Ord.step {w0 w w' : World} {b x : Nat} {v v' : Value} {c c' k k' : Nat} {g : Nat → Bool} (h : Ord w0 w b x v c k g) (hb : BoxV w' b v' ((left g c').map lf) k') (hk : k' ≤ (left g c').length) (hn : ∀ j, c' ≤ j → g j = false) (hu : UpdB b v w w' v') : Ord w0 w' b x v' c' k' g := by
  have hs := h.low.size
  refine ⟨hb, hk, h.gb.block (hu.block x h.gb.lt h.xb h.xv), h.xb, hu.own x h.gb.lt h.xv, hn, ⟨hu.os.trans h.low.os, hu.tape.trans h.low.tape, hu.output.trans h.low.output, Nat.le_trans hs hu.size, fun i hi _ => ?_⟩, h.bl, h.xl, fun y hy => ?_⟩
  · have hv : v.ownBlock ≠ some i := fun e => by have := h.vl i e; omega
    exact (hu.block i (by omega) (by have := h.bl; omega) hv).trans (h.low.block i hi (by simp))
  · rcases Nat.lt_or_ge y w0.heap.size with hlt | hge
    · have hv : v.ownBlock ≠ some y := fun e => by have := h.vl y e; omega
      exact absurd hy (hu.own y (by omega) hv)
    · exact hge
/-- New memory alone. -/
theorem Ord.up {w0 w w' : World} {b x : Nat} {v : Value} {c k : Nat} {g : Nat → Bool} (h : Ord w0 w b x v c k g) (hu : Upd [] w w') : Ord w0 w' b x v c k g := h.step (h.box.up hu) h.look h.new (UpdB.of0 hu)
/-- The table is marked. -/
theorem Ord.mark {w0 w : World} {b x : Nat} {v : Value} {c k : Nat} {g : Nat → Bool} {L : List Nat} {m j : Nat} (hb : BoxV w b v (L.map lf) k) (hk : k ≤ L.length) (hm : m < 80) (hmc : m < c) (hL : left (goneAt g m) c = L) (gb : Gb w x g) (xb : x ≠ b) (xv : v.ownBlock ≠ some x) (new : ∀ j, c ≤ j → g j = false) (low : Upd [] w0 w) (bl : w0.heap.size ≤ b) (xl : w0.heap.size ≤ x) (vl : ∀ y, v.ownBlock = some y → w0.heap.size ≤ y) (_ : j = m) : Ord w0 (w.setCell ⟨x, m, none⟩ (.bool true)) b x v c k (goneAt g m) := by
  have hu : Upd [x] w (w.setCell ⟨x, m, none⟩ (.bool true)) := (Upd.refl [x] w).setCell (Or.inr (by simp)) _
  refine ⟨?_, by rw [hL]; exact hk, gb.set hm, xb, xv, fun i hi => ?_, low.then hu (fun y hy => Or.inl (by simp at hy; rw [hy]; exact xl)), bl, xl, vl⟩
  · rw [hL]; exact hb.upd hu (by simpa using fun e => xb e.symm) (fun y hy hm => xv (by simp at hm; rw [← hm]; exact hy))
  · unfold goneAt
    rw [if_neg (by omega)]
    exact new i hi

theorem begin_V (w : World) (b : Nat) (v : Value) (L : List (List Value)) (k : Nat) (h : BoxV w b v L k) : Calls Try.prog 7 #[.pointer (some ⟨b, 0, none⟩)] w fun e w' => e = .returned (.tuple #[]) ∧ BoxV w' b v L 0 ∧ UpdB b v w w' v := by
  refine (begin_in w b v k h.bx).mono ?_
  rintro e w' ⟨rfl, h1, h2⟩
  have hn : ∀ g, v.ownBlock = some g → g ∉ [b] := fun g hg hm => h.far (by rw [hg]; simp at hm; rw [hm])
  exact ⟨rfl, ⟨h1, h.row.upd h2 hn, h.has.upd h.row h2 hn, h.far⟩, UpdB.of h2⟩
theorem take_Ve (w : World) (b : Nat) (v : Value) (L : List (List Value)) (k : Nat) (hk : k = L.length) (h : BoxV w b v L k) : Calls Try.prog 9 #[.pointer (some ⟨b, 0, none⟩)] w fun e w' => e = .returned (.tuple #[(.agg #[.int .u8 0, .bool false, .slice none 0 0, .string ⟨#[]⟩, .int .i64 0, .slice none 0 0, .slice none 0 0]), .int .i64 6]) ∧ Upd [] w w' := by
  obtain ⟨p, c, rfl⟩ := h.form
  exact take_end w b p L.length c k (by rw [hk]; simp) h.bx

end Go.Proofs.Ytmdkhkeljpdbiaa
