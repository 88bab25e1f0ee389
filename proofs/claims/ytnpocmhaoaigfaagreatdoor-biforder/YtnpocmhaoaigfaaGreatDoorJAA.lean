/- Plain arithmetic of limbs: no program in it. -/
import Derived.Below
import Derived.Test.YtnpocmhaoaigfaaGreatDoorProg
import Derived.KernelRfl
import Derived.WalkKit
import Derived.WalkSpells
import Derived.WalkLawsBesides

namespace Go.Proofs.YtnpocmhaoaigfaaGreatDoor

/-- What limbs, the lowest one first, come to. -/
def val : List Nat → Nat
  | [] => 0
  | x :: r => x + 4294967296 * val r

/-- Each one is a limb. -/
def Dig (L : List Nat) : Prop := ∀ x, x ∈ L → x < 4294967296

/-- Limbs, without noughts at the end, of the number n. -/
structure Norm (L : List Nat) (n : Nat) : Prop where
  dig : Dig L
  eq : val L = n
  top : ∀ x, L.getLast? = some x → x ≠ 0

theorem val_nil : val [] = 0 := rfl
theorem val_cons (x : Nat) (r : List Nat) : val (x :: r) = x + 4294967296 * val r := rfl

theorem val_append (A B : List Nat) : val (A ++ B) = val A + 4294967296 ^ A.length * val B := by
  induction A with
  | nil => simp [val]
  | cons x r ih => 
    simp only [List.cons_append, val_cons, ih, List.length_cons, Nat.pow_succ]
    rw [Nat.mul_add, Nat.mul_comm (4294967296 ^ r.length) 4294967296, Nat.mul_assoc]; omega

theorem Dig.nil : Dig [] := fun _ h => by simp at h
theorem Dig.getD {L : List Nat} (h : Dig L) (i : Nat) : L.getD i 0 < 4294967296 := by
  rw [List.getD_eq_getElem?_getD]
  by_cases hi : i < L.length
  · rw [List.getElem?_eq_getElem hi]; exact h _ (List.getElem_mem hi)
  · rw [List.getElem?_eq_none (by omega)]; simp
theorem Dig.take {L : List Nat} (h : Dig L) (n : Nat) : Dig (L.take n) := fun x hx => h x (List.mem_of_mem_take hx)
theorem Dig.drop {L : List Nat} (h : Dig L) (n : Nat) : Dig (L.drop n) := fun x hx => h x (List.mem_of_mem_drop hx)
theorem Dig.set {L : List Nat} (h : Dig L) (i x : Nat) (hx : x < 4294967296) : Dig (L.set i x) := fun y hy => by
  rcases List.mem_or_eq_of_mem_set hy with h1 | h1
  · exact h y h1
  · rw [h1]; exact hx
theorem Dig.cons {L : List Nat} (h : Dig L) {x : Nat} (hx : x < 4294967296) : Dig (x :: L) := fun y hy => by
  rcases List.mem_cons.1 hy with h1 | h1
  · rw [h1]; exact hx
  · exact h y h1
theorem Dig.replicate (n : Nat) : Dig (List.replicate n 0) := fun x hx => by
  have := (List.mem_replicate.1 hx).2; omega

theorem pow_pos (n : Nat) : 0 < 4294967296 ^ n := Nat.pow_pos (by decide)

theorem val_lt {L : List Nat} (h : Dig L) : val L < 4294967296 ^ L.length := by
  induction L with
  | nil => simp [val]
  | cons x r ih =>
    have h1 := ih (fun y hy => h y (List.mem_cons_of_mem _ hy))
    have h2 := h x (List.mem_cons_self)
    rw [val_cons, List.length_cons, Nat.pow_succ]
    have : val r + 1 ≤ 4294967296 ^ r.length := h1
    omega

theorem val_take_succ (L : List Nat) (k : Nat) : val (L.take (k + 1)) = val (L.take k) + 4294967296 ^ k * L.getD k 0 := by
  by_cases hk : k < L.length
  · rw [List.take_succ_eq_append_getElem hk, val_append]
    have h1 : (L.take k).length = k := by simp; omega
    rw [h1, List.getD_eq_getElem?_getD, List.getElem?_eq_getElem hk]
    simp [val]
  · rw [List.take_of_length_le (by omega), List.take_of_length_le (by omega), List.getD_eq_getElem?_getD, List.getElem?_eq_none (by omega)]
    simp

theorem val_take_all (L : List Nat) (k : Nat) (h : L.length ≤ k) : val (L.take k) = val L := by rw [List.take_of_length_le h]

theorem val_drop (L : List Nat) (i : Nat) (hi : i < L.length) : val (L.drop i) = L.getD i 0 + 4294967296 * val (L.drop (i + 1)) := by
  rw [List.drop_eq_getElem_cons hi, val_cons, List.getD_eq_getElem?_getD, List.getElem?_eq_getElem hi]; rfl

theorem val_split (L : List Nat) (i : Nat) (hi : i ≤ L.length) : val L = val (L.take i) + 4294967296 ^ i * val (L.drop i) := by
  have h := val_append (L.take i) (L.drop i)
  rw [List.take_append_drop] at h
  rw [h]
  have h1 : (L.take i).length = i := by simp; omega
  rw [h1]

theorem val_set (L : List Nat) (p d : Nat) (hp : p < L.length) : val (L.set p d) + 4294967296 ^ p * L.getD p 0 = val L + 4294967296 ^ p * d := by
  induction L generalizing p with
  | nil => simp at hp
  | cons x r ih =>
    cases p with
    | zero => simp only [List.set_cons_zero, val_cons, List.getD_cons_zero, Nat.pow_zero]; omega
    | succ q =>
      have h := ih q (by simpa using hp)
      simp only [List.set_cons_succ, val_cons, List.getD_cons_succ, Nat.pow_succ]
      rw [Nat.mul_comm (4294967296 ^ q) 4294967296, Nat.mul_assoc, Nat.mul_assoc]
      omega

theorem val_replicate (n : Nat) : val (List.replicate n 0) = 0 := by
  induction n with
  | zero => rfl
  | succ k ih => rw [List.replicate_succ, val_cons, ih]

theorem Norm.zero : Norm [] 0 := ⟨Dig.nil, rfl, fun x h => by simp at h⟩

/-- A number has one row of limbs. -/
theorem val_pos_of_top {L : List Nat} (hne : L ≠ []) (ht : ∀ x, L.getLast? = some x → x ≠ 0) : 0 < val L := by
  have h := List.getLast?_eq_some_getLast hne
  have h0 := ht _ h
  have h1 : L = L.dropLast ++ [L.getLast hne] := (List.dropLast_concat_getLast hne).symm
  rw [h1, val_append]
  have h2 : val [L.getLast hne] = L.getLast hne := by simp [val]
  rw [h2]
  have h3 : 0 < 4294967296 ^ L.dropLast.length * L.getLast hne := Nat.mul_pos (pow_pos _) (by omega)
  omega

theorem Norm.uniq {L M : List Nat} {n : Nat} (h : Norm L n) (k : Norm M n) : L = M := by
  induction L generalizing M n with
  | nil =>
    cases M with
    | nil => rfl
    | cons y s =>
      have h1 := val_pos_of_top (L := y :: s) (by simp) k.top
      have h2 := k.eq
      have h3 := h.eq
      simp only [val] at h3; omega
  | cons x r ih =>
    cases M with
    | nil =>
      have h1 := val_pos_of_top (L := x :: r) (by simp) h.top
      have h2 := k.eq
      have h3 := h.eq
      simp only [val] at h2; omega
    | cons y s =>
      have e1 := h.eq
      have e2 := k.eq
      rw [val_cons] at e1 e2
      have hx := h.dig x List.mem_cons_self
      have hy := k.dig y List.mem_cons_self
      have hxy : x = y := by omega
      have hv : val r = val s := by omega
      have hr : Norm r (val r) := ⟨fun z hz => h.dig z (List.mem_cons_of_mem _ hz), rfl, fun z hz => h.top z (by cases r with | nil => simp at hz | cons a t => simpa using hz)⟩
      have hs : Norm s (val r) := ⟨fun z hz => k.dig z (List.mem_cons_of_mem _ hz), hv.symm, fun z hz => k.top z (by cases s with | nil => simp at hz | cons a t => simpa using hz)⟩
      rw [hxy, ih hr hs]

theorem Norm.lt {L : List Nat} {n : Nat} (h : Norm L n) : n < 4294967296 ^ L.length := by rw [← h.eq]; exact val_lt h.dig

theorem Norm.nil_iff {L : List Nat} {n : Nat} (h : Norm L n) : L = [] ↔ n = 0 := by
  constructor
  · intro e; rw [← h.eq, e]; rfl
  · intro e
    by_cases hne : L = []
    · exact hne
    · have := val_pos_of_top hne h.top; rw [h.eq] at this; omega

theorem Norm.le {L : List Nat} {n : Nat} (h : Norm L n) (hne : L ≠ []) : 4294967296 ^ (L.length - 1) ≤ n := by
  have h0 := h.top _ (List.getLast?_eq_some_getLast hne)
  have h1 : L = L.dropLast ++ [L.getLast hne] := (List.dropLast_concat_getLast hne).symm
  have h2 := h.eq
  rw [h1, val_append] at h2
  have h3 : val [L.getLast hne] = L.getLast hne := by simp [val]
  rw [h3, List.length_dropLast] at h2
  have h4 : 4294967296 ^ (L.length - 1) * 1 ≤ 4294967296 ^ (L.length - 1) * L.getLast hne := Nat.mul_le_mul_left _ (by omega)
  omega

/-- So many limbs at most, just if the number is below that power. -/
theorem Norm.len_le {L : List Nat} {n : Nat} (h : Norm L n) (k : Nat) : L.length ≤ k ↔ n < 4294967296 ^ k := by
  constructor
  · intro hl
    exact Nat.lt_of_lt_of_le h.lt (Nat.pow_le_pow_right (by decide) hl)
  · intro hn
    by_cases hne : L = []
    · rw [hne]; simp
    · have h1 := h.le hne
      have h2 : 4294967296 ^ (L.length - 1) < 4294967296 ^ k := by omega
      have h3 := (Nat.pow_lt_pow_iff_right (a := 4294967296) (by decide)).1 h2
      omega

/-- Limbs whose end from n on is all noughts. -/
theorem norm_take {L : List Nat} (hd : Dig L) (n : Nat) (hn : n ≤ L.length) (hz : ∀ i, n ≤ i → L.getD i 0 = 0) (ht : n = 0 ∨ L.getD (n - 1) 0 ≠ 0) : Norm (L.take n) (val L) := by
  refine ⟨hd.take n, ?_, ?_⟩
  · have h1 : ∀ k, n ≤ k → val (L.take k) = val (L.take n) := by
      intro k hk
      induction k with
      | zero => have : n = 0 := by omega
                rw [this]
      | succ j ih =>
        by_cases e : n ≤ j
        · rw [val_take_succ, ih e, hz j e]; omega
        · have : n = j + 1 := by omega
          rw [this]
    rw [← h1 L.length hn, List.take_length]
  · intro x hx
    rcases ht with ht | ht
    · rw [ht] at hx; simp at hx
    · have hl : (L.take n).length = n := by simp; omega
      rw [List.getLast?_eq_getElem?, hl] at hx
      by_cases h0 : n = 0
      · rw [h0] at hx; simp at hx
      · rw [List.getElem?_take_of_lt (by omega)] at hx
        rw [List.getD_eq_getElem?_getD, hx] at ht
        exact ht

/-- Two rows, alike from i + 1 on, stand as their limbs at i. -/
theorem val_lt_of {A B : List Nat} (ha : Dig A) (i : Nat) (hA : i < A.length) (hB : i < B.length) (hd : A.drop (i + 1) = B.drop (i + 1)) (hlt : A.getD i 0 < B.getD i 0) : val A < val B := by
  rw [val_split A i (by omega), val_split B i (by omega), val_drop A i hA, val_drop B i hB, hd]
  have h1 := val_lt (ha.take i)
  have h2 : (A.take i).length = i := by simp; omega
  rw [h2] at h1
  have h3 : 4294967296 ^ i * (A.getD i 0 + 4294967296 * val (B.drop (i + 1))) + 4294967296 ^ i * 1 ≤ 4294967296 ^ i * (B.getD i 0 + 4294967296 * val (B.drop (i + 1))) := by
    rw [← Nat.mul_add]; exact Nat.mul_le_mul_left _ (by omega)
  omega

theorem norm_lt_of_len {A B : List Nat} {a b : Nat} (ha : Norm A a) (hb : Norm B b) (h : A.length < B.length) : a < b := by
  have h1 := ha.lt
  have h2 := hb.le (by intro e; rw [e] at h; simp at h)
  have h3 : 4294967296 ^ A.length ≤ 4294967296 ^ (B.length - 1) := Nat.pow_le_pow_right (by decide) (by omega)
  omega

end Go.Proofs.YtnpocmhaoaigfaaGreatDoor

/- Closed facts of the program's tables, and what it is that a slice of limbs reads as. -/
namespace Go.Proofs.YtnpocmhaoaigfaaGreatDoor
open Go.RowKit

theorem info_u32 : (Tryz.prog.info? 61).map (fun i => (i.zero, i.size, i.bytes)) = some (some (.int .u32 0), 1, 4) := by kernel_rfl

/-- Nothing that was there has turned but in the blocks that are named; there may be new ones. -/
structure Upd (S : List Nat) (w w' : World) : Prop where
  os : w'.os = w.os
  tape : w'.tape = w.tape
  output : w'.output = w.output
  size : w.heap.size ≤ w'.heap.size
  block : ∀ k, k < w.heap.size → k ∉ S → w'.heap[k]? = w.heap[k]?

theorem Upd.refl (S : List Nat) (w : World) : Upd S w w := ⟨rfl, rfl, rfl, Nat.le_refl _, fun _ _ _ => rfl⟩
theorem Upd.trans {S : List Nat} {a b c : World} (h : Upd S a b) (k : Upd S b c) : Upd S a c :=
  ⟨k.os.trans h.os, k.tape.trans h.tape, k.output.trans h.output, Nat.le_trans h.size k.size, fun i hi hn => (k.block i (Nat.lt_of_lt_of_le hi h.size) hn).trans (h.block i hi hn)⟩
/-- A second step whose blocks lie beyond what the first one began with, or are among the first one's. -/
theorem Upd.then {S U : List Nat} {a b c : World} (h : Upd S a b) (k : Upd U b c) (hU : ∀ x, x ∈ U → a.heap.size ≤ x ∨ x ∈ S) : Upd S a c :=
  ⟨k.os.trans h.os, k.tape.trans h.tape, k.output.trans h.output, Nat.le_trans h.size k.size, fun i hi hn =>
    (k.block i (Nat.lt_of_lt_of_le hi h.size) (fun hm => by rcases hU i hm with h1 | h1; · omega
                                                            · exact hn h1)).trans (h.block i hi hn)⟩
theorem Upd.drew {S : List Nat} {a b : World} (h : Upd S a b) : Upd S a b.drew := ⟨h.os, h.tape, h.output, h.size, h.block⟩
theorem Upd.drewN {S : List Nat} {a b : World} (h : Upd S a b) (n : Nat) : Upd S a (b.drewN n) := ⟨h.os, h.tape, h.output, h.size, h.block⟩
theorem Upd.alloc {S : List Nat} {a b : World} (h : Upd S a b) (o : Obj) : Upd S a (b.alloc o) :=
  h.trans ⟨rfl, rfl, rfl, by simp, fun k hk _ => Below.heap_alloc _ _ _ hk⟩
theorem Upd.setCell {S : List Nat} {a b : World} (h : Upd S a b) {p : Addr} (hp : a.heap.size ≤ p.block ∨ p.block ∈ S) (u : Value) : Upd S a (b.setCell p u) :=
  ⟨h.os, h.tape, h.output, by rw [World.size_setCell]; exact h.size, fun k hk hn => by
    rw [Below.heap_setCell _ _ _ _ (fun e => by rcases hp with h1 | h1
                                                · omega
                                                · exact hn (e ▸ h1))]; exact h.block k hk hn⟩
theorem Upd.grown {S : List Nat} {a b c : World} {row : Option Nat} (h : Upd S a b) (hg : b.grownBy c row) (hr : ∀ k, row = some k → a.heap.size ≤ k ∨ k ∈ S) : Upd S a c :=
  ⟨hg.os.trans h.os, hg.tape.trans h.tape, hg.output.trans h.output, Nat.le_trans h.size hg.size, fun k hk hn =>
    (hg.block k (Nat.lt_of_lt_of_le hk h.size) (fun e => by rcases hr k e.symm with h1 | h1
                                                            · omega
                                                            · exact hn h1)).trans (h.block k hk hn)⟩
theorem Upd.below {w w' : World} (h : Upd [] w w') : Below w.heap.size w w' := ⟨h.os, h.tape, h.output, h.size, fun k hk => h.block k hk (by simp)⟩
theorem Upd.cell {S : List Nat} {w w' : World} (h : Upd S w w') {p : Addr} (hp : p.block < w.heap.size) (hn : p.block ∉ S) : w'.cell? p = w.cell? p := World.cell?_of_block (w := w) (h.block p.block hp hn)

/-- The cells of a slice's first elements. -/
def At (w : World) (a : Option Addr) (L : List Nat) : Prop :=
  L = [] ∨ ∃ b o, a = some ⟨b, o, none⟩ ∧ b < w.heap.size ∧ ∀ i, i < L.length → w.cell? ⟨b, o + i, none⟩ = some (.int .u32 (L.getD i 0 : Nat))

theorem At.nil (w : World) (a : Option Addr) : At w a [] := Or.inl rfl

theorem At.mono {w w' : World} {a : Option Addr} {L : List Nat} (h : At w a L) (hb : Upd [] w w') : At w' a L := by
  rcases h with h | ⟨b, o, e, hlt, hc⟩
  · exact Or.inl h
  · exact Or.inr ⟨b, o, e, Nat.lt_of_lt_of_le hlt hb.size, fun i hi => (hb.cell (p := ⟨b, o + i, none⟩) hlt (by simp)).trans (hc i hi)⟩

theorem At.take {w : World} {a : Option Addr} {L : List Nat} (h : At w a L) (n : Nat) : At w a (L.take n) := by
  rcases h with h | ⟨b, o, e, hlt, hc⟩
  · exact Or.inl (by rw [h]; simp)
  · refine Or.inr ⟨b, o, e, hlt, fun i hi => ?_⟩
    have h1 : i < n ∧ i < L.length := by simpa [List.length_take, Nat.lt_min] using hi
    rw [hc i h1.2]
    simp [List.getD, h1.1]

/-- In memory from that block on, or nowhere. -/
def Fresh (n : Nat) (a : Option Addr) : Prop := ∀ p, a = some p → n ≤ p.block
theorem Fresh.nil (n : Nat) : Fresh n none := fun _ h => by cases h
theorem Fresh.mem {n b o : Nat} (h : n ≤ b) : Fresh n (some ⟨b, o, none⟩) := fun p e => by cases e; exact h
theorem Fresh.le {n m : Nat} {a : Option Addr} (h : Fresh n a) (hm : m ≤ n) : Fresh m a := fun p e => Nat.le_trans hm (h p e)
theorem At.set {w : World} {a : Option Addr} {L : List Nat} {p : Addr} (h : At w a L) (hn : ∀ q, a = some q → q.block ≠ p.block) (v : Value) : At (w.setCell p v) a L := by
  rcases h with h | ⟨b, o, e, hlt, hc⟩
  · exact Or.inl h
  · refine Or.inr ⟨b, o, e, by rw [World.size_setCell]; exact hlt, fun i hi => ?_⟩
    have := hn _ e
    rw [World.cell?_setCell_other _ _ _ _ (fun h => this (by rw [h]))]
    exact hc i hi

/-- A row of limbs as cells. -/
def u32s (L : List Nat) : Array Value := (L.map (fun n => Value.int .u32 (n : Nat))).toArray

theorem u32s_size (L : List Nat) : (u32s L).size = L.length := by simp [u32s]
theorem u32s_get (L : List Nat) (i : Nat) (hi : i < L.length) : (u32s L)[i]? = some (.int .u32 (L.getD i 0 : Nat)) := by
  simp [u32s, List.getD, hi]
theorem u32s_set (L : List Nat) (i x : Nat) : (u32s L).setIfInBounds i (.int .u32 (x : Nat)) = u32s (L.set i x) := by
  apply Array.ext'
  simp [u32s, List.map_set]

/-- A block of the call's own that holds a row of limbs. -/
def Blk (w : World) (g : Nat) (L : List Nat) : Prop := w.heap[g]? = some (.cells (u32s L) 61 (0, 0))
/-- A block of one number. -/
def One (w : World) (g : Nat) (k : IntKind) (t : TypeId) (n : Nat) : Prop := w.heap[g]? = some (.cells #[.int k (n : Nat)] t (0, 0))

theorem Blk.cell {w : World} {g : Nat} {L : List Nat} (h : Blk w g L) (i : Nat) (hi : i < L.length) : w.cell? ⟨g, i, none⟩ = some (.int .u32 (L.getD i 0 : Nat)) := by
  rw [cell_of_row w g i _ _ _ h]; exact u32s_get L i hi
theorem Blk.free {w : World} {g : Nat} {L : List Nat} (h : Blk w g L) (i : Nat) : w.frozen? ⟨g, i, none⟩ = false := frozen_of_row w g i _ _ h
theorem Blk.lt {w : World} {g : Nat} {L : List Nat} (h : Blk w g L) : g < w.heap.size := lt_of_block h
theorem Blk.at {w : World} {g : Nat} {L : List Nat} (h : Blk w g L) : At w (some ⟨g, 0, none⟩) L :=
  Or.inr ⟨g, 0, rfl, h.lt, fun i hi => by rw [Nat.zero_add]; exact h.cell i hi⟩
theorem Blk.set {w : World} {g : Nat} {L : List Nat} (h : Blk w g L) (i x : Nat) : Blk (w.setCell ⟨g, i, none⟩ (.int .u32 (x : Nat))) g (L.set i x) := by
  unfold Blk
  rw [heap_setCell_same w g i _ _ _ h, u32s_set]
theorem Blk.other {w : World} {g : Nat} {L : List Nat} (h : Blk w g L) (a : Addr) (ha : a.block ≠ g) (u : Value) : Blk (w.setCell a u) g L := by
  unfold Blk
  rw [heap_setCell_other _ _ _ _ (fun e => ha e.symm)]; exact h
theorem Blk.mono {S : List Nat} {w w' : World} {g : Nat} {L : List Nat} (h : Blk w g L) (hu : Upd S w w') (hn : g ∉ S) : Blk w' g L := (hu.block g h.lt hn).trans h
theorem One.cell {w : World} {g : Nat} {k : IntKind} {t : TypeId} {n : Nat} (h : One w g k t n) : w.cell? ⟨g, 0, none⟩ = some (.int k (n : Nat)) := cell_of_one h
theorem One.free {w : World} {g : Nat} {k : IntKind} {t : TypeId} {n : Nat} (h : One w g k t n) : w.frozen? ⟨g, 0, none⟩ = false := free_of_one h
theorem One.lt {w : World} {g : Nat} {k : IntKind} {t : TypeId} {n : Nat} (h : One w g k t n) : g < w.heap.size := lt_of_block h
theorem One.set {w : World} {g : Nat} {k : IntKind} {t : TypeId} {n : Nat} (h : One w g k t n) (m : Nat) : One (w.setCell ⟨g, 0, none⟩ (.int k (m : Nat))) g k t m := one_setCell h
theorem One.other {w : World} {g : Nat} {k : IntKind} {t : TypeId} {n : Nat} (h : One w g k t n) (a : Addr) (ha : a.block ≠ g) (u : Value) : One (w.setCell a u) g k t n := by
  unfold One
  rw [heap_setCell_other _ _ _ _ (fun e => ha e.symm)]; exact h
theorem One.mono {S : List Nat} {w w' : World} {g : Nat} {k : IntKind} {t : TypeId} {n : Nat} (h : One w g k t n) (hu : Upd S w w') (hn : g ∉ S) : One w' g k t n := (hu.block g h.lt hn).trans h

/-- 'make([]uint32, n)'. -/
theorem make_u32 (w : World) {ops : Array Oper} {rest : List Oper} {o : Oper} {a : Act} {Q : Exit → Act → World → Prop}
    (hg : o.guard = none) (l c : Operand) (hop : o.op = Op.makeSlice 23 l c) (L C : Int) (n : Nat) (hl : a.eval l = .int .i64 L) (hc : a.eval c = .int .i64 C) (hL : L = (n : Int)) (hC : C = (n : Int)) (hn : n ≤ 200000)
    (hK : ∀ w', Blk w' w.heap.size (List.replicate n 0) → Upd [] w w' → wpList Tryz.prog ops Q rest (a.put o.dst (.slice (some ⟨w.heap.size, 0, none⟩) n n)) w') :
    wpList Tryz.prog ops Q (o :: rest) a w := by
  obtain ⟨i0, hi, hz0, hz1, hz2⟩ := info_parts info_u32
  refine wpList_make_full w hg l c 23 hop w.heap.size 61 i0 (.int .u32 0) 1 Tryz.underlying23 hi hz0 hz1 .i64 .i64 L C n hl hc hL hC (by rw [hz2]; omega) (by unfold maxLen; omega) (Nat.le_refl _) ?_
  intro w' hown hgrow
  refine hK w' ?_ ((Upd.refl [] w).grown hgrow (fun k h => by cases h))
  obtain ⟨_, h | ⟨g, cap, cur, hv, _, hh, _, _, hcs, hcu⟩⟩ := hown
  · cases h.1
  · simp only [Value.slice.injEq, Option.some.injEq, Addr.mk.injEq, and_true, true_and] at hv
    obtain ⟨rfl, rfl⟩ := hv
    unfold Blk
    rw [hh]
    have e : cur.toList = (madeCells (Value.int .u32 0).cells (n * 1)).toList := by
      rw [← hcu, List.take_of_length_le (by simp [hcs])]
    rw [show (Value.int .u32 0).cells = #[Value.int .u32 0] from rfl, toList_madeCells_one] at e
    have e2 : cur = u32s (List.replicate n 0) := by
      apply Array.ext'
      rw [e]
      simp [u32s]
    rw [e2]

theorem setCell_twice (w : World) (a : Addr) (u v : Value) : (w.setCell a u).setCell a v = w.setCell a v := by
  unfold World.setCell
  simp only [World.mk.injEq, and_self, and_true]
  apply Array.ext
  · simp
  · intro i h1 h2
    have h3 : i < w.heap.size := by simpa using h1
    simp only [Array.getElem_modify]
    by_cases hb : a.block = i
    · simp only [hb, if_true]
      cases w.heap[i] <;> simp
      split <;> simp
    · simp [hb]

end Go.Proofs.YtnpocmhaoaigfaaGreatDoor

/- The contracts of the smallest functions. -/
namespace Go.Proofs.YtnpocmhaoaigfaaGreatDoor
open Go.RowKit

set_option maxHeartbeats 400000 in
theorem limbAt_in (b o n cap i : Nat) (x : Nat) (w : World) (hi : i < n) (_hn : n ≤ 100000) (hc : w.cell? ⟨b, o + i, none⟩ = some (.int .u32 (x : Nat))) :
    Calls Tryz.prog 148 #[.slice (some ⟨b, o, none⟩) n cap, .int .i64 i] w fun e w' => e = .returned (.int .u32 (x : Nat)) ∧ w' = w := by
  go_enter Tryz.func148, Tryz.ntmps148
  go_wp2
  go_ret
  exact ⟨rfl, rfl⟩

set_option maxHeartbeats 400000 in
theorem limbAt_out (a : Option Addr) (n cap i : Nat) (w : World) (hi : n ≤ i) :
    Calls Tryz.prog 148 #[.slice a n cap, .int .i64 i] w fun e w' => e = .returned (.int .u32 0) ∧ w' = w := by
  go_enter Tryz.func148, Tryz.ntmps148
  go_wp2
  go_ret
  exact ⟨rfl, rfl⟩

/-- limbAt: the limb at i, or 0. -/
theorem limbAt_any (a : Option Addr) (cap i : Nat) (L : List Nat) (w : World) (hn : L.length ≤ 100000) (hL : At w a L) :
    Calls Tryz.prog 148 #[.slice a L.length cap, .int .i64 i] w fun e w' => e = .returned (.int .u32 (L.getD i 0 : Nat)) ∧ w' = w := by
  by_cases hi : i < L.length
  · rcases hL with h | ⟨b, o, rfl, _, hc⟩
    · rw [h] at hi; simp at hi
    · exact limbAt_in b o L.length cap i _ w hi hn (hc i hi)
  · have e : L.getD i 0 = 0 := by rw [List.getD_eq_getElem?_getD, List.getElem?_eq_none (by omega)]; rfl
    rw [e]
    exact limbAt_out a L.length cap i w (by omega)

theorem mul_lt (a b : Nat) (ha : a < 4294967296) (hb : b < 4294967296) : a * b ≤ 18446744065119617025 := by
  have := Nat.mul_le_mul (show a ≤ 4294967295 by omega) (show b ≤ 4294967295 by omega); omega

theorem carry_wrap (x y c d : Nat) (hx : x < 4294967296) (hy : y < 4294967296) (hb : d < 4294967296) (hcc : c < 4294967296) :
    IntKind.u64.wrap ((c : Int) + IntKind.u64.wrap (IntKind.u64.wrap ((d : Int) * (x : Int)) + (y : Int))) = ((c + (d * x + y) : Nat) : Int) := by
  have h := mul_lt d x hb hx
  have e : (d : Int) * (x : Int) = ((d * x : Nat) : Int) := by simp
  rw [e]
  generalize d * x = p at *
  simp only [IntKind.wrap_u64]
  omega

set_option maxHeartbeats 400000 in
theorem carrying1_core (x y c d bk bb : Nat) (w : World) (hx : x < 4294967296) (hy : y < 4294967296) (hb : d < 4294967296) (hcc : c < 4294967296)
    (Hk : One w bk .u64 68 c) (Hb : One w bb .u32 61 d) :
    Calls Tryz.prog 171 #[.int .u32 (x : Nat), .int .u32 (y : Nat), .pointer (some ⟨bk, 0, none⟩), .pointer (some ⟨bb, 0, none⟩)] w fun e w' =>
      e = .returned (.int .u32 (((c + (d * x + y)) % 4294967296 : Nat))) ∧ One w' bk .u64 68 ((c + (d * x + y)) / 4294967296) ∧ Upd [bk] w w' := by
  have HH : Hid _ := Hk
  have hk := Hk.cell
  have hkf := Hk.free
  have hbb := Hb.cell
  have W := carry_wrap x y c d hx hy hb hcc
  have HW : Hid _ := W
  clear W Hk Hb
  go_enter Tryz.func171, Tryz.ntmps171
  go_wp2
  go_ret
  rw [HW.out, setCell_twice]
  exact ⟨by simp, One.set HH.out _, (Upd.refl _ _).setCell (Or.inr (by simp)) _⟩

theorem carry_lt (c x y d : Nat) (hc : c < 4294967296) (hx : x < 4294967296) (hy : y < 4294967296) (hd : d < 4294967296) : (c + (d * x + y)) / 4294967296 < 4294967296 := by
  have := mul_lt d x hd hx
  omega

/-- carrying's closure: the limb of d * x + y and the carry, which is kept. -/
theorem carrying1_any (x y c d bk bb : Nat) (w : World) (hx : x < 4294967296) (hy : y < 4294967296) (hb : d < 4294967296) (hcc : c < 4294967296)
    (Hk : One w bk .u64 68 c) (Hb : One w bb .u32 61 d) :
    Calls Tryz.prog 171 #[.int .u32 (x : Nat), .int .u32 (y : Nat), .pointer (some ⟨bk, 0, none⟩), .pointer (some ⟨bb, 0, none⟩)] w fun e w' =>
      ∃ low c' : Nat, e = .returned (.int .u32 (low : Nat)) ∧ low < 4294967296 ∧ c' < 4294967296 ∧ low + 4294967296 * c' = c + (d * x + y) ∧ One w' bk .u64 68 c' ∧ Upd [bk] w w' := by
  refine (carrying1_core x y c d bk bb w hx hy hb hcc Hk Hb).mono ?_
  rintro e w' ⟨rfl, h1, h2⟩
  exact ⟨_, _, rfl, Nat.mod_lt _ (by decide), carry_lt c x y d hcc hx hy hb, Nat.mod_add_div _ _, h1, h2⟩

set_option maxHeartbeats 400000 in
theorem carrying_any (D C : Int) (d c : Nat) (w : World) (hD : D = (d : Int)) (hC : C = (c : Int)) (hc : c < 4294967296) :
    Calls Tryz.prog 153 #[.int .u32 D, .int .u32 C] w fun e w' =>
      e = .returned (.func (.func 171) #[] #[.pointer (some ⟨w.heap.size + 1, 0, none⟩), .pointer (some ⟨w.heap.size, 0, none⟩)]) ∧
      One w' (w.heap.size + 1) .u64 68 c ∧ One w' w.heap.size .u32 61 d ∧ Upd [] w w' := by
  subst hD hC
  go_enter Tryz.func153, Tryz.ntmps153
  go_wp2
  go_ret
  exact ⟨rfl, heap_alloc2_new _ _ _, heap_alloc2_old _ _ _, ((Upd.refl _ _).alloc _).alloc _⟩

set_option maxHeartbeats 400000 in
theorem borrowing_any (w : World) :
    Calls Tryz.prog 170 #[] w fun e w' =>
      e = .returned (.func (.func 190) #[] #[.pointer (some ⟨w.heap.size, 0, none⟩)]) ∧
      One w' w.heap.size .u64 68 0 ∧ Upd [] w w' := by
  go_enter Tryz.func170, Tryz.ntmps170
  go_wp2
  go_ret
  exact ⟨rfl, heap_alloc_new _ _, (Upd.refl _ _).alloc _⟩

set_option maxHeartbeats 400000 in
theorem dividing_any (D : Int) (d : Nat) (w : World) (hD : D = (d : Int)) :
    Calls Tryz.prog 97 #[.int .u32 D] w fun e w' =>
      e = .returned (.func (.func 125) #[] #[.pointer (some ⟨w.heap.size + 1, 0, none⟩), .pointer (some ⟨w.heap.size, 0, none⟩)]) ∧
      One w' (w.heap.size + 1) .u64 68 0 ∧ One w' w.heap.size .u32 61 d ∧ Upd [] w w' := by
  subst hD
  go_enter Tryz.func97, Tryz.ntmps97
  go_wp2
  go_ret
  exact ⟨rfl, heap_alloc2_new _ _ _, heap_alloc2_old _ _ _, ((Upd.refl _ _).alloc _).alloc _⟩

/-- The limb and the borrow of x - y - c. -/
def bDig (x y c : Nat) : Nat := if x < y + c then x + 4294967296 - (y + c) else x - (y + c)
def bOut (x y c : Nat) : Nat := if x < y + c then 1 else 0
theorem bOut_le (x y c : Nat) : bOut x y c ≤ 1 := by unfold bOut; split <;> omega
theorem bDig_lt (x y c : Nat) (hx : x < 4294967296) (hy : y < 4294967296) (hc : c ≤ 1) : bDig x y c < 4294967296 := by unfold bDig; split <;> omega
theorem bDig_eq (x y c : Nat) (hy : y < 4294967296) (hc : c ≤ 1) : bDig x y c + (y + c) = x + 4294967296 * bOut x y c := by unfold bDig bOut; split <;> omega

theorem borrow_wrap1 (x y c : Nat) (hx : x < 4294967296) (hy : y < 4294967296) (hc : c ≤ 1) : IntKind.u64.wrap (IntKind.u64.wrap ((x : Int) - (y : Int)) - (c : Int)) % 4294967296 = (bDig x y c : Nat) := by
  unfold bDig; simp only [IntKind.wrap_u64]; split <;> omega
theorem borrow_wrap2 (x y c : Nat) (hx : x < 4294967296) (hy : y < 4294967296) (hc : c ≤ 1) : IntKind.u64.wrap (IntKind.u64.wrap ((x : Int) - (y : Int)) - (c : Int)) / 9223372036854775808 = (bOut x y c : Nat) := by
  unfold bOut; simp only [IntKind.wrap_u64]; split <;> omega

set_option maxHeartbeats 400000 in
theorem borrowing1_any (x y c bk : Nat) (w : World) (hx : x < 4294967296) (hy : y < 4294967296) (hcc : c ≤ 1) (Hk : One w bk .u64 68 c) :
    Calls Tryz.prog 190 #[.int .u32 (x : Nat), .int .u32 (y : Nat), .pointer (some ⟨bk, 0, none⟩)] w fun e w' =>
      e = .returned (.int .u32 (bDig x y c : Nat)) ∧ One w' bk .u64 68 (bOut x y c) ∧ Upd [bk] w w' := by
  have hk := Hk.cell
  have hkf := Hk.free
  have HH : Hid _ := Hk
  clear Hk
  go_enter Tryz.func190, Tryz.ntmps190
  go_wp2
  go_ret
  rw [borrow_wrap1 x y c hx hy hcc, borrow_wrap2 x y c hx hy hcc]
  exact ⟨rfl, One.set HH.out _, (Upd.refl _ _).setCell (Or.inr (by simp)) _⟩

theorem or_shift (c x : Nat) (hc : c < 4294967296) (hx : x < 4294967296) : bits BinOp.or IntKind.u64 ((c : Int) * 4294967296) (x : Int) = ((c * 4294967296 + x : Nat) : Int) := by
  have e : (c : Int) * 4294967296 = ((c * 4294967296 : Nat) : Int) := by simp
  rw [e, bits_or_u64_nat _ _ (by omega) (by omega)]
  have h := Nat.shiftLeft_add_eq_or_of_lt (i := 32) (b := x) (by omega) c
  rw [Nat.shiftLeft_eq] at h
  rw [show c * 4294967296 = c * 2 ^ 32 from rfl, h]

theorem quo_lt (x c d : Nat) (hx : x < 4294967296) (hcc : c < d) : (c * 4294967296 + x) / d < 4294967296 := by
  rw [Nat.div_lt_iff_lt_mul (by omega)]
  have : (c + 1) * 4294967296 ≤ d * 4294967296 := Nat.mul_le_mul_right _ (by omega)
  omega

end Go.Proofs.YtnpocmhaoaigfaaGreatDoor

/- trimmed, by its contract. -/
namespace Go.Proofs.YtnpocmhaoaigfaaGreatDoor
open Go.RowKit

set_option maxHeartbeats 400000 in
theorem trimmed_core (b o cap : Nat) (L : List Nat) (w : World) (_hn : L.length ≤ 100000) (hcap : L.length ≤ cap) (hcm : cap ≤ 9223372036854775807)
    (hc : ∀ i, i < L.length → w.cell? ⟨b, o + i, none⟩ = some (.int .u32 (L.getD i 0 : Nat))) :
    Calls Tryz.prog 52 #[.slice (some ⟨b, o, none⟩) L.length cap] w fun e w' =>
      w' = w ∧ ∃ n : Nat, n ≤ L.length ∧ (∀ i, n ≤ i → L.getD i 0 = 0) ∧ ((n = 0 ∧ e = .returned (.slice none 0 0)) ∨ (n ≠ 0 ∧ L.getD (n - 1) 0 ≠ 0 ∧ e = .returned (.slice (some ⟨b, o, none⟩) n cap))) := by
  go_enter Tryz.func52, Tryz.ntmps52
  go_wp2
  go_loop [7] (fun i => ∃ k : Nat, k ≤ L.length ∧ i = .int .i64 k ∧ (∀ i, L.length - k ≤ i → L.getD i 0 = 0)) (fun i => L.length - (intOf i).toNat)
  case atStart => exact ⟨0, Nat.zero_le _, rfl, fun i hi => by rw [List.getD_eq_getElem?_getD, List.getElem?_eq_none (by omega)]; rfl⟩
  case round =>
    obtain ⟨k, hk, rfl, hz⟩ := hrel
    have HZ : Hid _ := hz
    clear hz
    by_cases hlt : k < L.length
    · have hcell := hc (L.length - k - 1) (by omega)
      obtain ⟨x, hx⟩ : ∃ x, x = L.getD (L.length - k - 1) 0 := ⟨_, rfl⟩
      rw [← hx] at hcell
      have HX : Hid _ := hx
      clear hx hc
      by_cases h0 : x = 0
      · go_wp2
        go_round
        case rel =>
          refine ⟨k + 1, by omega, by go_num, fun i hi => ?_⟩
          by_cases e : i = L.length - k - 1
          · rw [e, ← HX.out, h0]
          · exact HZ.out i (by omega)
        case measure => simp [intOf]; omega
      · go_wp2
        go_ret
        refine ⟨rfl, L.length - k, by omega, HZ.out, Or.inr ⟨by omega, ?_, ?_⟩⟩
        · intro hh; apply h0; rw [HX.out, List.getD_eq_getElem?_getD]; exact hh
        · simp
    · go_wp2
      go_ret
      exact ⟨rfl, 0, Nat.zero_le _, fun i _ => HZ.out i (by omega), Or.inl ⟨rfl, rfl⟩⟩

set_option maxHeartbeats 400000 in
theorem trimmed_nil (a : Option Addr) (cap : Nat) (w : World) :
    Calls Tryz.prog 52 #[.slice a 0 cap] w fun e w' => w' = w ∧ e = .returned (.slice none 0 0) := by
  go_enter Tryz.func52, Tryz.ntmps52
  go_wp2
  refine wp_loop_rounds 1 ?_
  rw [rounds_succ]
  go_wp2
  go_ret
  exact ⟨rfl, rfl⟩

/-- trimmed: the same limbs without the noughts at the end. -/
theorem trimmed_new (a : Option Addr) (cap : Nat) (L : List Nat) (w : World) (hn : L.length ≤ 100000) (hcap : L.length ≤ cap) (hcm : cap ≤ 9223372036854775807) (HL : At w a L) (hd : Dig L) :
    Calls Tryz.prog 52 #[.slice a L.length cap] w fun e w' =>
      w' = w ∧ ∃ a' c' M, e = .returned (.slice a' M.length c') ∧ Norm M (val L) ∧ At w a' M ∧ M.length ≤ L.length ∧ M.length ≤ c' ∧ c' ≤ 9223372036854775807 ∧ (a' = none ∨ a' = a) := by
  rcases HL with h | ⟨b, o, rfl, hlt, hc⟩
  · subst h
    refine (trimmed_nil a cap w).mono ?_
    rintro e w' ⟨rfl, rfl⟩
    exact ⟨rfl, none, 0, [], rfl, Norm.zero, At.nil _ _, by simp, by simp, by omega, Or.inl rfl⟩
  · refine (trimmed_core b o cap L w hn hcap hcm hc).mono ?_
    rintro e w' ⟨rfl, n, hle, hz, h⟩
    refine ⟨rfl, ?_⟩
    have hN := norm_take hd n hle hz (h.elim (fun h => Or.inl h.1) (fun h => Or.inr h.2.1))
    have hl : (L.take n).length = n := by simp; omega
    rcases h with ⟨h0, rfl⟩ | ⟨h0, _, rfl⟩
    · refine ⟨none, 0, L.take n, by rw [hl, h0], hN, ?_, by omega, by omega, by omega, Or.inl rfl⟩
      rw [h0]; exact Or.inl (by simp)
    · refine ⟨some ⟨b, o, none⟩, cap, L.take n, by rw [hl], hN, ?_, by omega, by omega, by omega, Or.inr rfl⟩
      exact At.take (Or.inr ⟨b, o, rfl, hlt, hc⟩) n

/-- .. -/
theorem trimmed_any (a : Option Addr) (cap : Nat) (L : List Nat) (w : World) (hn : L.length ≤ 100000) (hcap : L.length ≤ cap) (hcm : cap ≤ 9223372036854775807) (HL : At w a L) (hd : Dig L) :
    Calls Tryz.prog 52 #[.slice a L.length cap] w fun e w' =>
      w' = w ∧ ∃ a' c' M, e = .returned (.slice a' M.length c') ∧ Norm M (val L) ∧ At w a' M ∧ M.length ≤ L.length ∧ M.length ≤ c' ∧ c' ≤ 9223372036854775807 := by
  refine (trimmed_new a cap L w hn hcap hcm HL hd).mono ?_
  rintro e w' ⟨h0, a', c', M, h1, h2, h3, h4, h5, h6, _⟩
  exact ⟨h0, a', c', M, h1, h2, h3, h4, h5, h6⟩

end Go.Proofs.YtnpocmhaoaigfaaGreatDoor

/- Whole terms stored, loaded, handed back. -/
namespace Go.Proofs.YtnpocmhaoaigfaaGreatDoor
open Go.RowKit

theorem info_term : (Tryz.prog.info? 26).map (·.size) = some 7 := by kernel_rfl
theorem agg_term : (match (Tryz.prog.underlying 26) with | some (.struct _) => true | _ => false) = true := by kernel_rfl

theorem term_desc : ∃ fs, Tryz.prog.underlying 26 = some (.struct fs) := by
  have h := agg_term
  revert h
  cases hq : Tryz.prog.underlying 26 with
  | none => intro h; simp at h
  | some d =>
    intro h
    cases d <;> simp_all

/-- A block that holds a term. -/
def Tb (w : World) (g : Nat) (cs : Array Value) : Prop := w.heap[g]? = some (.cells cs 26 (0, 0))
theorem Tb.lt {w : World} {g : Nat} {cs : Array Value} (h : Tb w g cs) : g < w.heap.size := lt_of_block h
theorem Tb.mono {S : List Nat} {w w' : World} {g : Nat} {cs : Array Value} (h : Tb w g cs) (hu : Upd S w w') (hn : g ∉ S) : Tb w' g cs := (hu.block g h.lt hn).trans h
theorem Tb.new (w : World) (cs : Array Value) (g : Nat) (h : g = w.heap.size) : Tb (w.alloc (.cells cs 26)) g cs := by
  subst h; exact heap_alloc_new w _
theorem Tb.old {w : World} {g : Nat} {cs : Array Value} (h : Tb w g cs) (o : Obj) : Tb (w.alloc o) g cs := (Below.heap_alloc w o g h.lt).trans h
theorem Tb.cell {w : World} {g : Nat} {cs : Array Value} (h : Tb w g cs) (i : Nat) : w.cell? ⟨g, i, none⟩ = cs[i]? := cell_of_row w g i _ _ _ h

theorem setRow_upd (w : World) (g : Nat) (cs : Array Value) : Upd [g] w (w.setRow g cs) :=
  ⟨rfl, rfl, rfl, by simp, fun k _ hn => by
    have : g ≠ k := fun e => hn (by simp [e])
    simp only [World.setRow, Array.getElem?_modify]
    rw [if_neg this]⟩
theorem setRow_tb {w : World} {g : Nat} {old : Array Value} (h : Tb w g old) (cs : Array Value) : Tb (w.setRow g cs) g cs := by
  unfold Tb at *
  simp only [World.setRow, Array.getElem?_modify, if_true, h]
  rfl

/-- Limbs lie in no block that holds a term. -/
theorem At.keep {w w' : World} {a : Option Addr} {M : List Nat} {g : Nat} {k num : Int} {neg : Bool} {s : ByteArray} {a1 a2 a3 : Option Addr} {n1 n2 n3 c1 c2 c3 : Nat} (h : At w a M)
    (ht : Tb w g #[.int .u8 k, .bool neg, .slice a1 n1 c1, .string s, .int .i64 num, .slice a2 n2 c2, .slice a3 n3 c3]) (hu : Upd [g] w w') : At w' a M := by
  rcases h with h | ⟨b, o, e, hlt, hc⟩
  · exact Or.inl h
  · by_cases hM : M = []
    · exact Or.inl hM
    · have hpos : 0 < M.length := by cases M with | nil => exact absurd rfl hM | cons x t => simp
      have hb : b ≠ g := by
        intro e
        subst e
        have h0 := hc 0 hpos
        rw [Nat.add_zero, ht.cell o] at h0
        match o, h0 with
        | 0, h0 => simp at h0
        | 1, h0 => simp at h0
        | 2, h0 => simp at h0
        | 3, h0 => simp at h0
        | 4, h0 => simp at h0
        | 5, h0 => simp at h0
        | 6, h0 => simp at h0
        | n + 7, h0 => simp at h0
      exact Or.inr ⟨b, o, e, Nat.lt_of_lt_of_le hlt hu.size, fun i hi => (hu.cell (p := ⟨b, o + i, none⟩) hlt (by simp [hb])).trans (hc i hi)⟩

/-- A whole term is stored into a block of the call's own. -/
theorem store_T (w : World) {ops : Array Oper} {rest : List Oper} {o : Oper} {a : Act} {Q : Exit → Act → World → Prop} (hgd : o.guard = none) (x y : Operand) (ho : o.op = .store 26 x y)
    (g : Nat) (cells old : Array Value) (hx : a.eval x = .pointer (some ⟨g, 0, none⟩)) (hy : a.eval y = .agg cells) (hg : Tb w g old) (hold : old.size = 7) (hc : cells.size = 7) (h1 : cells.all (·.oneCell') = true)
    (h : ∀ w', Tb w' g cells → Upd [g] w w' → wpList Tryz.prog ops Q rest (a.put o.dst undef) w') : wpList Tryz.prog ops Q (o :: rest) a w :=
  wpList_store_row hgd 26 x y ho g cells hx hy 26 old hg (by rw [info_term, hc]) (by omega) h1 (h _ (setRow_tb hg cells) (setRow_upd w g cells))

theorem store_V (w : World) {ops : Array Oper} {rest : List Oper} {o : Oper} {a : Act} {Q : Exit → Act → World → Prop} (hgd : o.guard = none) (x y : Operand) (ho : o.op = .store 26 x y)
    (g : Nat) (old : Array Value) (k num : Int) (neg : Bool) (s : ByteArray) (a1 a2 a3 : Option Addr) (n1 n2 n3 c1 c2 c3 : Nat) (hx : a.eval x = .pointer (some ⟨g, 0, none⟩))
    (hy : a.eval y = .agg #[.int .u8 k, .bool neg, .slice a1 n1 c1, .string s, .int .i64 num, .slice a2 n2 c2, .slice a3 n3 c3]) (hg : Tb w g old) (hold : old.size = 7)
    (h : ∀ w', Tb w' g #[.int .u8 k, .bool neg, .slice a1 n1 c1, .string s, .int .i64 num, .slice a2 n2 c2, .slice a3 n3 c3] → Upd [g] w w' → wpList Tryz.prog ops Q rest (a.put o.dst undef) w') : wpList Tryz.prog ops Q (o :: rest) a w :=
  store_T w hgd x y ho g _ old hx hy hg hold rfl (by simp [Value.oneCell']) h

/-- .. and loaded. -/
theorem load_T (w : World) {ops : Array Oper} {rest : List Oper} {o : Oper} {a : Act} {Q : Exit → Act → World → Prop} (hgd : o.guard = none) (x : Operand) (ho : o.op = .load 26 x)
    (g : Nat) (cs : Array Value) (hx : a.eval x = .pointer (some ⟨g, 0, none⟩)) (hg : Tb w g cs) (hc : cs.size = 7)
    (h : wpList Tryz.prog ops Q rest (a.put o.dst (.agg cs)) w) : wpList Tryz.prog ops Q (o :: rest) a w := by
  obtain ⟨fs, h1⟩ := term_desc
  exact wpList_load_row hgd 26 x ho g hx 26 cs (0, 0) _ hg h1 rfl (by rw [info_term, hc]) h

theorem load_run (w : World) (g : Nat) (cs : Array Value) (hg : Tb w g cs) (hc : cs.size = 7) : (loadVar 26 ⟨g, 0, none⟩).run Tryz.prog w = .ok (.agg cs) w := by
  obtain ⟨fs, h1⟩ := term_desc
  exact run_loadVar_row w g 26 26 cs (0, 0) _ hg h1 rfl (by rw [info_term, hc])

/-- A term is handed back. -/
theorem ret_T {fn : Func} {R : Ending → World → Prop} {a : Act} {w : World} {p : Tmp} (h : fn.results = #[.cell p 26]) (hd : a.defers = []) (g : Nat) (cs : Array Value)
    (hp : a.tmps.getD p undef = .pointer (some ⟨g, 0, none⟩)) (hg : Tb w g cs) (hc : cs.size = 7) (hR : R (.returned (.agg cs)) w) : bodyPost Tryz.prog fn R .ret a w := by
  obtain ⟨fs, h1⟩ := term_desc
  exact bodyPost_ret (results_cell_row h a.tmps w g 26 cs (0, 0) _ hp hg h1 rfl (by rw [info_term, hc])) hd hR

/-- A term and a word more. -/
theorem ret_Tb {fn : Func} {R : Ending → World → Prop} {a : Act} {w : World} {p u : Tmp} (h : fn.results = #[.cell p 26, .tmp u]) (hd : a.defers = []) (g : Nat) (cs : Array Value) (v : Value)
    (hp : a.tmps.getD p undef = .pointer (some ⟨g, 0, none⟩)) (hg : Tb w g cs) (hc : cs.size = 7) (hu : a.tmps.getD u undef = v) (hR : R (.returned (.tuple #[.agg cs, v])) w) : bodyPost Tryz.prog fn R .ret a w := by
  refine bodyPost_ret (v := .tuple #[.agg cs, v]) ?_ hd hR
  rw [results_cell_tmp h, hp, hu]
  simp only [asAddr, Sem.run_pure, Result.andThen_ok, load_run w g cs hg hc]

/-- Two terms and a word more. -/
theorem ret_TTb {fn : Func} {R : Ending → World → Prop} {a : Act} {w : World} {p q u : Tmp} (h : fn.results = #[.cell p 26, .cell q 26, .tmp u]) (hd : a.defers = []) (g g2 : Nat) (cs cs2 : Array Value) (v : Value)
    (hp : a.tmps.getD p undef = .pointer (some ⟨g, 0, none⟩)) (hg : Tb w g cs) (hc : cs.size = 7) (hq : a.tmps.getD q undef = .pointer (some ⟨g2, 0, none⟩)) (hg2 : Tb w g2 cs2) (hc2 : cs2.size = 7)
    (hu : a.tmps.getD u undef = v) (hR : R (.returned (.tuple #[.agg cs, .agg cs2, v])) w) : bodyPost Tryz.prog fn R .ret a w := by
  refine bodyPost_ret (v := .tuple #[.agg cs, .agg cs2, v]) ?_ hd hR
  have hp' : a.tmps[p]?.getD undef = .pointer (some ⟨g, 0, none⟩) := by simpa using hp
  have hq' : a.tmps[q]?.getD undef = .pointer (some ⟨g2, 0, none⟩) := by simpa using hq
  have hu' : a.tmps[u]?.getD undef = v := by simpa using hu
  simp [results, h, hp', hq', hu', asAddr, load_run w g cs hg hc, load_run w g2 cs2 hg2 hc2]

end Go.Proofs.YtnpocmhaoaigfaaGreatDoor
