/- Closed facts of the program's tables, and what it is that a slice of limbs reads as. -/
import Derived.Test.YtedelcgimbclpaaDoorProg
import Derived.Test.YtedelcgimbclpaaDoorWm
import Derived.KernelRfl
import Derived.WalkKit
import Derived.WalkSpells
import Derived.WalkLawsBesides
namespace Go.Proofs.YtedelcgimbclpaaDoor
open Go.RowKit

theorem info_u32 : (Tryd.prog.info? 43).map (fun i => (i.zero, i.size, i.bytes)) = some (some (.int .u32 0), 1, 4) := by kernel_rfl

/-- Nothing that was there has turned but in the blocks that are named; there may be new ones. -/
structure Upd (S : List Nat) (w w' : World) : Prop where
  os : w'.os = w.os
  tape : w'.tape = w.tape
  output : w'.output = w.output
  size : w.heap.size ≤ w'.heap.size
  block : ∀ k, k < w.heap.size → k ∉ S → w'.heap[k]? = w.heap[k]?

theorem Upd.refl (S : List Nat) (w : World) : Upd S w w := ⟨rfl, rfl, rfl, Nat.le_refl _, fun _ _ _ => rfl⟩
theorem Upd.trans {S : List Nat} {a b c : World} (h : Upd S a b) (k : Upd S b c) : Upd S a c :=
  ⟨k.os.trans h.os, k.tape.trans h.tape, k.output.trans h.output, Nat.le_trans h.size k.size, fun i hi hn => (k.block i (Nat.lt_of_lt_of_le hi h.size) hn).trans (h.block i hi hn)⟩
/-- A second step whose blocks lie beyond what the first one began with, or are among the first one's. -/
theorem Upd.then {S U : List Nat} {a b c : World} (h : Upd S a b) (k : Upd U b c) (hU : ∀ x, x ∈ U → a.heap.size ≤ x ∨ x ∈ S) : Upd S a c :=
  ⟨k.os.trans h.os, k.tape.trans h.tape, k.output.trans h.output, Nat.le_trans h.size k.size, fun i hi hn =>
    (k.block i (Nat.lt_of_lt_of_le hi h.size) (fun hm => by rcases hU i hm with h1 | h1; · omega
                                                            · exact hn h1)).trans (h.block i hi hn)⟩
theorem Upd.drew {S : List Nat} {a b : World} (h : Upd S a b) : Upd S a b.drew := ⟨h.os, h.tape, h.output, h.size, h.block⟩
theorem Upd.drewN {S : List Nat} {a b : World} (h : Upd S a b) (n : Nat) : Upd S a (b.drewN n) := ⟨h.os, h.tape, h.output, h.size, h.block⟩
theorem Upd.alloc {S : List Nat} {a b : World} (h : Upd S a b) (o : Obj) : Upd S a (b.alloc o) :=
  h.trans ⟨rfl, rfl, rfl, by simp, fun k hk _ => Below.heap_alloc _ _ _ hk⟩
theorem Upd.setCell {S : List Nat} {a b : World} (h : Upd S a b) {p : Addr} (hp : a.heap.size ≤ p.block ∨ p.block ∈ S) (u : Value) : Upd S a (b.setCell p u) :=
  ⟨h.os, h.tape, h.output, by rw [World.size_setCell]; exact h.size, fun k hk hn => by
    rw [Below.heap_setCell _ _ _ _ (fun e => by rcases hp with h1 | h1
                                                · omega
                                                · exact hn (e ▸ h1))]; exact h.block k hk hn⟩
theorem Upd.grown {S : List Nat} {a b c : World} {row : Option Nat} (h : Upd S a b) (hg : b.grownBy c row) (hr : ∀ k, row = some k → a.heap.size ≤ k ∨ k ∈ S) : Upd S a c :=
  ⟨hg.os.trans h.os, hg.tape.trans h.tape, hg.output.trans h.output, Nat.le_trans h.size hg.size, fun k hk hn =>
    (hg.block k (Nat.lt_of_lt_of_le hk h.size) (fun e => by rcases hr k e.symm with h1 | h1
                                                            · omega
                                                            · exact hn h1)).trans (h.block k hk hn)⟩
theorem Upd.below {w w' : World} (h : Upd [] w w') : Below w.heap.size w w' := ⟨h.os, h.tape, h.output, h.size, fun k hk => h.block k hk (by simp)⟩
theorem Upd.cell {S : List Nat} {w w' : World} (h : Upd S w w') {p : Addr} (hp : p.block < w.heap.size) (hn : p.block ∉ S) : w'.cell? p = w.cell? p := World.cell?_of_block (w := w) (h.block p.block hp hn)

/-- The cells of a slice's first elements. -/
def At (w : World) (a : Option Addr) (L : List Nat) : Prop :=
  L = [] ∨ ∃ b o, a = some ⟨b, o, none⟩ ∧ b < w.heap.size ∧ ∀ i, i < L.length → w.cell? ⟨b, o + i, none⟩ = some (.int .u32 (L.getD i 0 : Nat))

theorem At.nil (w : World) (a : Option Addr) : At w a [] := Or.inl rfl

theorem At.mono {w w' : World} {a : Option Addr} {L : List Nat} (h : At w a L) (hb : Upd [] w w') : At w' a L := by
  rcases h with h | ⟨b, o, e, hlt, hc⟩
  · exact Or.inl h
  · exact Or.inr ⟨b, o, e, Nat.lt_of_lt_of_le hlt hb.size, fun i hi => (hb.cell (p := ⟨b, o + i, none⟩) hlt (by simp)).trans (hc i hi)⟩

theorem At.take {w : World} {a : Option Addr} {L : List Nat} (h : At w a L) (n : Nat) : At w a (L.take n) := by
  rcases h with h | ⟨b, o, e, hlt, hc⟩
  · exact Or.inl (by rw [h]; simp)
  · refine Or.inr ⟨b, o, e, hlt, fun i hi => ?_⟩
    have h1 : i < n ∧ i < L.length := by simpa [List.length_take, Nat.lt_min] using hi
    rw [hc i h1.2]
    simp [List.getD, h1.1]

/-- In memory from that block on, or nowhere. -/
def Fresh (n : Nat) (a : Option Addr) : Prop := ∀ p, a = some p → n ≤ p.block
theorem Fresh.nil (n : Nat) : Fresh n none := fun _ h => by cases h
theorem Fresh.mem {n b o : Nat} (h : n ≤ b) : Fresh n (some ⟨b, o, none⟩) := fun p e => by cases e; exact h
theorem Fresh.le {n m : Nat} {a : Option Addr} (h : Fresh n a) (hm : m ≤ n) : Fresh m a := fun p e => Nat.le_trans hm (h p e)
theorem At.set {w : World} {a : Option Addr} {L : List Nat} {p : Addr} (h : At w a L) (hn : ∀ q, a = some q → q.block ≠ p.block) (v : Value) : At (w.setCell p v) a L := by
  rcases h with h | ⟨b, o, e, hlt, hc⟩
  · exact Or.inl h
  · refine Or.inr ⟨b, o, e, by rw [World.size_setCell]; exact hlt, fun i hi => ?_⟩
    have := hn _ e
    rw [World.cell?_setCell_other _ _ _ _ (fun h => this (by rw [h]))]
    exact hc i hi

/-- A row of limbs as cells. -/
def u32s (L : List Nat) : Array Value := (L.map (fun n => Value.int .u32 (n : Nat))).toArray

theorem u32s_size (L : List Nat) : (u32s L).size = L.length := by simp [u32s]
theorem u32s_get (L : List Nat) (i : Nat) (hi : i < L.length) : (u32s L)[i]? = some (.int .u32 (L.getD i 0 : Nat)) := by
  simp [u32s, List.getD, hi]
theorem u32s_set (L : List Nat) (i x : Nat) : (u32s L).setIfInBounds i (.int .u32 (x : Nat)) = u32s (L.set i x) := by
  apply Array.ext'
  simp [u32s, List.map_set]

/-- A block of the call's own that holds a row of limbs. -/
def Blk (w : World) (g : Nat) (L : List Nat) : Prop := w.heap[g]? = some (.cells (u32s L) 43 (0, 0))
/-- A block of one number. -/
def One (w : World) (g : Nat) (k : IntKind) (t : TypeId) (n : Nat) : Prop := w.heap[g]? = some (.cells #[.int k (n : Nat)] t (0, 0))

theorem Blk.cell {w : World} {g : Nat} {L : List Nat} (h : Blk w g L) (i : Nat) (hi : i < L.length) : w.cell? ⟨g, i, none⟩ = some (.int .u32 (L.getD i 0 : Nat)) := by
  rw [cell_of_row w g i _ _ _ h]; exact u32s_get L i hi
theorem Blk.free {w : World} {g : Nat} {L : List Nat} (h : Blk w g L) (i : Nat) : w.frozen? ⟨g, i, none⟩ = false := frozen_of_row w g i _ _ h
theorem Blk.lt {w : World} {g : Nat} {L : List Nat} (h : Blk w g L) : g < w.heap.size := lt_of_block h
theorem Blk.at {w : World} {g : Nat} {L : List Nat} (h : Blk w g L) : At w (some ⟨g, 0, none⟩) L :=
  Or.inr ⟨g, 0, rfl, h.lt, fun i hi => by rw [Nat.zero_add]; exact h.cell i hi⟩
theorem Blk.set {w : World} {g : Nat} {L : List Nat} (h : Blk w g L) (i x : Nat) : Blk (w.setCell ⟨g, i, none⟩ (.int .u32 (x : Nat))) g (L.set i x) := by
  unfold Blk
  rw [heap_setCell_same w g i _ _ _ h, u32s_set]
theorem Blk.other {w : World} {g : Nat} {L : List Nat} (h : Blk w g L) (a : Addr) (ha : a.block ≠ g) (u : Value) : Blk (w.setCell a u) g L := by
  unfold Blk
  rw [heap_setCell_other _ _ _ _ (fun e => ha e.symm)]; exact h
theorem Blk.mono {S : List Nat} {w w' : World} {g : Nat} {L : List Nat} (h : Blk w g L) (hu : Upd S w w') (hn : g ∉ S) : Blk w' g L := (hu.block g h.lt hn).trans h
theorem One.cell {w : World} {g : Nat} {k : IntKind} {t : TypeId} {n : Nat} (h : One w g k t n) : w.cell? ⟨g, 0, none⟩ = some (.int k (n : Nat)) := cell_of_one h
theorem One.free {w : World} {g : Nat} {k : IntKind} {t : TypeId} {n : Nat} (h : One w g k t n) : w.frozen? ⟨g, 0, none⟩ = false := free_of_one h
theorem One.lt {w : World} {g : Nat} {k : IntKind} {t : TypeId} {n : Nat} (h : One w g k t n) : g < w.heap.size := lt_of_block h
theorem One.set {w : World} {g : Nat} {k : IntKind} {t : TypeId} {n : Nat} (h : One w g k t n) (m : Nat) : One (w.setCell ⟨g, 0, none⟩ (.int k (m : Nat))) g k t m := one_setCell h
theorem One.other {w : World} {g : Nat} {k : IntKind} {t : TypeId} {n : Nat} (h : One w g k t n) (a : Addr) (ha : a.block ≠ g) (u : Value) : One (w.setCell a u) g k t n := by
  unfold One
  rw [heap_setCell_other _ _ _ _ (fun e => ha e.symm)]; exact h
theorem One.mono {S : List Nat} {w w' : World} {g : Nat} {k : IntKind} {t : TypeId} {n : Nat} (h : One w g k t n) (hu : Upd S w w') (hn : g ∉ S) : One w' g k t n := (hu.block g h.lt hn).trans h

/-- 'make([]uint32, n)'. -/
theorem make_u32 (w : World) {ops : Array Oper} {rest : List Oper} {o : Oper} {a : Act} {Q : Exit → Act → World → Prop}
    (hg : o.guard = none) (l c : Operand) (hop : o.op = Op.makeSlice 23 l c) (L C : Int) (n : Nat) (hl : a.eval l = .int .i64 L) (hc : a.eval c = .int .i64 C) (hL : L = (n : Int)) (hC : C = (n : Int)) (hn : n ≤ 200000)
    (hK : ∀ w', Blk w' w.heap.size (List.replicate n 0) → Upd [] w w' → wpList Tryd.prog ops Q rest (a.put o.dst (.slice (some ⟨w.heap.size, 0, none⟩) n n)) w') :
    wpList Tryd.prog ops Q (o :: rest) a w := by
  obtain ⟨i0, hi, hz0, hz1, hz2⟩ := info_parts info_u32
  refine wpList_make_full w hg l c 23 hop w.heap.size 43 i0 (.int .u32 0) 1 Tryd.underlying23 hi hz0 hz1 .i64 .i64 L C n hl hc hL hC (by rw [hz2]; omega) (by unfold maxLen; omega) (Nat.le_refl _) ?_
  intro w' hown hgrow
  refine hK w' ?_ ((Upd.refl [] w).grown hgrow (fun k h => by cases h))
  obtain ⟨_, h | ⟨g, cap, cur, hv, _, hh, _, _, hcs, hcu⟩⟩ := hown
  · cases h.1
  · simp only [Value.slice.injEq, Option.some.injEq, Addr.mk.injEq, and_true, true_and] at hv
    obtain ⟨rfl, rfl⟩ := hv
    unfold Blk
    rw [hh]
    have e : cur.toList = (madeCells (Value.int .u32 0).cells (n * 1)).toList := by
      rw [← hcu, List.take_of_length_le (by simp [hcs])]
    rw [show (Value.int .u32 0).cells = #[Value.int .u32 0] from rfl, toList_madeCells_one] at e
    have e2 : cur = u32s (List.replicate n 0) := by
      apply Array.ext'
      rw [e]
      simp [u32s]
    rw [e2]

theorem setCell_twice (w : World) (a : Addr) (u v : Value) : (w.setCell a u).setCell a v = w.setCell a v := by
  unfold World.setCell
  simp only [World.mk.injEq, and_self, and_true]
  apply Array.ext
  · simp
  · intro i h1 h2
    have h3 : i < w.heap.size := by simpa using h1
    simp only [Array.getElem_modify]
    by_cases hb : a.block = i
    · simp only [hb, if_true]
      cases w.heap[i] <;> simp
      split <;> simp
    · simp [hb]

end Go.Proofs.YtedelcgimbclpaaDoor
