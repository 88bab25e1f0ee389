/- What stands while MailNumbers goes on. -/
import Derived.Test.YtmdkhkeljpdbiaaMrF
import Derived.Test.YtmdkhkeljpdbiaaMoB
namespace Go.Proofs.Ytmdkhkeljpdbiaa
open Go.RowKit

theorem UpdB.toUpd {b : Nat} {v v' : Value} {w w' : World} (h : UpdB b v w w' v') : Upd (b :: v.ownBlock.toList) w w' :=
  ⟨h.os, h.tape, h.output, h.size, fun k hk hn => h.block k hk (fun e => hn (by simp [e])) (fun e => hn (by simp [e]))⟩
/-- Two boxes in memory of their own; new memory alone; another block. -/
structure Num (w0 w : World) (b : Nat) (v : Value) (L : List (List Value)) (k : Nat) (r : Nat) (u : Value) (M : List (List Value)) (j : Nat) : Prop where
  box : BoxV w b v L k
  rbox : RBoxV w r u M j
  br : b ≠ r
  vr : v.ownBlock ≠ some r
  ub : u.ownBlock ≠ some b
  uv : ∀ y, v.ownBlock = some y → u.ownBlock ≠ some y
  lb : LowB w0 w b v
  rl : w0.heap.size ≤ r
  ul : ∀ y, u.ownBlock = some y → w0.heap.size ≤ y
theorem Num.both {w0 w : World} {b r k : Nat} {v u : Value} {L : List (List Value)} (h : Num w0 w b v L k r u L k) : Both w b v r u L k := ⟨h.box, h.rbox, h.br, h.vr, h.ub, h.uv⟩
theorem Num.stepB {w0 w w' : World} {b r k j k' : Nat} {v u v' : Value} {L M L' : List (List Value)} (h : Num w0 w b v L k r u M j) (hb : BoxV w' b v' L' k') (hu : UpdB b v w w' v') : Num w0 w' b v' L' k' r u M j := by
  refine ⟨hb, h.rbox.upd hu.toUpd ?_ ?_, h.br, hu.own r h.rbox.lt h.vr, h.ub, fun y hy e => ?_, h.lb.step hu, h.rl, h.ul⟩
  · intro hm
    simp only [List.mem_cons, Option.mem_toList] at hm
    rcases hm with e | e
    · exact h.br e.symm
    · exact h.vr e
  · intro y hy hm
    simp only [List.mem_cons, Option.mem_toList] at hm
    rcases hm with e | e
    · exact h.ub (by rw [hy, e])
    · exact h.uv y e hy
  · have hlt := h.rbox.row.lt y e
    exact hu.own y hlt (fun e2 => h.uv y e2 e) hy
theorem Num.stepR {w0 w w' : World} {b r k j j' : Nat} {v u u' : Value} {L M M' : List (List Value)} (h : Num w0 w b v L k r u M j) (hb : RBoxV w' r u' M' j') (hu : UpdB r u w w' u') : Num w0 w' b v L k r u' M' j' := by
  have hs := h.lb.low.size
  refine ⟨h.box.upd hu.toUpd ?_ ?_, hb, h.br, h.vr, hu.own b h.box.lt h.ub, fun y hy => hu.own y (h.box.row.lt y hy) (h.uv y hy), ⟨⟨hu.os.trans h.lb.low.os, hu.tape.trans h.lb.low.tape, hu.output.trans h.lb.low.output, Nat.le_trans hs hu.size, fun i hi _ => ?_⟩, h.lb.bl, h.lb.vl⟩, h.rl, fun y hy => ?_⟩
  · intro hm
    simp only [List.mem_cons, Option.mem_toList] at hm
    rcases hm with e | e
    · exact h.br e
    · exact h.ub e
  · intro y hy hm
    simp only [List.mem_cons, Option.mem_toList] at hm
    rcases hm with e | e
    · exact h.vr (by rw [hy, e])
    · exact h.uv y hy e
  · exact (hu.block i (by omega) (by have := h.rl; omega) (fun e => by have := h.ul i e; omega)).trans (h.lb.low.block i hi (by simp))
  · rcases Nat.lt_or_ge y w0.heap.size with hlt | hge
    · exact absurd hy (hu.own y (by omega) (fun e => by have := h.ul y e; omega))
    · exact hge
theorem Num.up {w0 w w' : World} {b r k j : Nat} {v u : Value} {L M : List (List Value)} (h : Num w0 w b v L k r u M j) (hu : Upd [] w w') : Num w0 w' b v L k r u M j := h.stepB (h.box.up hu) (UpdB.of0 hu)
/-- A block of neither. -/
structure Oth (w : World) (b : Nat) (v : Value) (r : Nat) (u : Value) (x : Nat) (cs : Array Value) (T : TypeId) : Prop where
  at' : w.heap[x]? = some (.cells cs T (0, 0))
  xb : x ≠ b
  xr : x ≠ r
  xv : v.ownBlock ≠ some x
  xu : u.ownBlock ≠ some x
theorem Oth.stepB {w w' : World} {b r x : Nat} {v v' u : Value} {cs : Array Value} {T : TypeId} (h : Oth w b v r u x cs T) (hu : UpdB b v w w' v') : Oth w' b v' r u x cs T :=
  ⟨(hu.block x (lt_of_block h.at') h.xb h.xv).trans h.at', h.xb, h.xr, hu.own x (lt_of_block h.at') h.xv, h.xu⟩
theorem Oth.stepR {w w' : World} {b r x : Nat} {v u u' : Value} {cs : Array Value} {T : TypeId} (h : Oth w b v r u x cs T) (hu : UpdB r u w w' u') : Oth w' b v r u' x cs T :=
  ⟨(hu.block x (lt_of_block h.at') h.xr h.xu).trans h.at', h.xb, h.xr, h.xv, hu.own x (lt_of_block h.at') h.xu⟩
theorem Oth.up {w w' : World} {b r x : Nat} {v u : Value} {cs : Array Value} {T : TypeId} (h : Oth w b v r u x cs T) (hu : Upd [] w w') : Oth w' b v r u x cs T := h.stepB (UpdB.of0 hu)
theorem Oth.new {w0 w w1 : World} {b r k j : Nat} {v u : Value} {L M : List (List Value)} {x : Nat} {cs : Array Value} {T : TypeId} (h : Num w0 w b v L k r u M j) (hx : w.heap.size ≤ x) (hat : w1.heap[x]? = some (.cells cs T (0, 0))) : Oth w1 b v r u x cs T :=
  ⟨hat, by have := h.box.lt; omega, by have := h.rbox.lt; omega, fun e => by have := h.box.row.lt x e; omega, fun e => by have := h.rbox.row.lt x e; omega⟩

/-- Letters number 0 to i. -/
def lq (i : Nat) : List (List Value) := (List.range i).map (fun (k : Nat) => (fl 5 false ⟨#[]⟩ (k : Int)).toList)
theorem lq_succ (i : Nat) : lq (i + 1) = lq i ++ [(fl 5 false ⟨#[]⟩ (i : Int)).toList] := by simp [lq, List.range_succ]
theorem lq_len (i : Nat) : (lq i).length = i := by simp [lq]
theorem lq_flat (i : Nat) : Flat (lq i) := fun c hc => by
  obtain ⟨k, _, rfl⟩ := List.mem_map.1 hc
  exact ⟨5, false, ⟨#[]⟩, (k : Int), rfl⟩
theorem Flat.erase {L : List (List Value)} (h : Flat L) (k : Nat) : Flat (L.eraseIdx k) := fun c hc => h c (List.mem_of_mem_eraseIdx hc)
theorem Flat.snoc {L : List (List Value)} (h : Flat L) (k : Int) (b : Bool) (s : ByteArray) (n : Int) : Flat (L ++ [(fl k b s n).toList]) := fun c hc => by
  rcases List.mem_append.1 hc with h1 | h1
  · exact h c h1
  · simp only [List.mem_singleton] at h1
    exact ⟨k, b, s, n, h1⟩
def skips : Array Value := #[.int .i64 0, .int .i64 1, .int .i64 1021, .int .i64 500, .int .i64 0, .int .i64 1019]
/-- How many are passed by, round by round. -/
theorem skip_at (j n : Nat) (hj : j < 6) (hn : n + j = 1024) : ∃ s : Nat, skips[j]? = some (.int .i64 (s : Nat)) ∧ s ≤ n ∧ (j < 5 → s < n) ∧ (j = 5 → s = n) := by
  match j, hj with
  | 0, _ => exact ⟨0, rfl, by omega, by omega, by omega⟩
  | 1, _ => exact ⟨1, rfl, by omega, by omega, by omega⟩
  | 2, _ => exact ⟨1021, rfl, by omega, by omega, by omega⟩
  | 3, _ => exact ⟨500, rfl, by omega, by omega, by omega⟩
  | 4, _ => exact ⟨0, rfl, by omega, by omega, by omega⟩
  | 5, _ => exact ⟨1019, rfl, by omega, by omega, by omega⟩
def N1 (w0 w : World) (b r : Nat) (s3 : Value) : Prop := ∃ i v u, s3 = .int .i64 (i : Nat) ∧ i ≤ 1024 ∧ Num w0 w b v (lq i) 0 r u (lq i) 0
def N2 (w0 w : World) (b r gs : Nat) (s5 : Value) : Prop := ∃ j v u L k, s5 = .int .i64 (j : Nat) ∧ j ≤ 6 ∧ Flat L ∧ Num w0 w b v L k r u L k ∧ Oth w b v r u gs skips 3 ∧ ((j ≤ 5 ∧ L.length + j = 1024 ∧ k = 0) ∨ (j = 6 ∧ L.length = 1019 ∧ k = 1019))
def N3 (w0 w : World) (b : Nat) (v : Value) (r : Nat) (u : Value) (L : List (List Value)) (gs s : Nat) (s6 : Value) : Prop := ∃ m : Nat, s6 = .int .i64 (m : Nat) ∧ m ≤ s ∧ Num w0 w b v L m r u L m ∧ Oth w b v r u gs skips 3
def N4 (w0 w : World) (b r : Nat) : Prop := ∃ v u L k, Flat L ∧ L.length = 1020 ∧ k ≤ 1020 ∧ Num w0 w b v L k r u L k
def lookAt (w : World) (b : Nat) : Nat := match w.cell? ⟨b, 2, none⟩ with | some (.int _ k) => k.toNat | _ => 0
theorem BoxV.lookAt {w : World} {b : Nat} {v : Value} {L : List (List Value)} {k : Nat} (h : BoxV w b v L k) : lookAt w b = k := by
  unfold Go.Proofs.Ytmdkhkeljpdbiaa.lookAt
  rw [h.bx.c2]
  simp

end Go.Proofs.Ytmdkhkeljpdbiaa
