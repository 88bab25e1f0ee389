/- Rows of digits: plain arithmetic, and what is owned of them. -/
import Derived.Test.YtpeganecbjefoaaDoorDivL
namespace Go.Proofs.YtpeganecbjefoaaDoor
open Go.RowKit

/-- What digits, the lowest one first, come to. -/
def dval : List Nat → Nat
  | [] => 0
  | c :: r => (c - 48) + 10 * dval r
def IsDig (D : List Nat) : Prop := ∀ c, c ∈ D → 48 ≤ c ∧ c ≤ 57

theorem IsDig.nil : IsDig [] := fun _ h => by simp at h
theorem IsDig.append {A B : List Nat} (ha : IsDig A) (hb : IsDig B) : IsDig (A ++ B) := fun c hc => by
  rcases List.mem_append.1 hc with h | h
  · exact ha c h
  · exact hb c h
theorem IsDig.one (x : Nat) : IsDig [48 + x % 10] := fun c hc => by
  simp only [List.mem_cons, List.not_mem_nil, or_false] at hc
  omega

theorem dval_append (A B : List Nat) : dval (A ++ B) = dval A + 10 ^ A.length * dval B := by
  induction A with
  | nil => simp [dval]
  | cons x r ih =>
    simp only [List.cons_append, dval, ih, List.length_cons, Nat.pow_succ]
    rw [Nat.mul_add, Nat.mul_comm (10 ^ r.length) 10, Nat.mul_assoc]; omega

theorem dval_one (x : Nat) : dval [48 + x] = x := by simp [dval]

/-- One digit more of a chunk. -/
theorem chunk_step (E : List Nat) (j low low0 : Nat) (hj : E.length = j) (h : dval E + 10 ^ j * low = low0) : dval (E ++ [48 + low % 10]) + 10 ^ (j + 1) * (low / 10) = low0 := by
  rw [dval_append, dval_one, hj, Nat.pow_succ, Nat.mul_assoc, Nat.add_assoc, ← Nat.mul_add, Nat.mod_add_div]
  exact h

/-- A whole chunk. -/
theorem chunk_end (D E : List Nat) (x low0 n : Nat) (hE : E.length = 9) (hlow : low0 = x % 1000000000) (low : Nat) (h : dval E + 10 ^ 9 * low = low0) (hx : dval D + 10 ^ D.length * x = n) :
    dval (D ++ E) + 10 ^ (D ++ E).length * (x / 1000000000) = n := by
  have h1 : low0 < 1000000000 := by rw [hlow]; exact Nat.mod_lt _ (by decide)
  have h2 : low = 0 := by
    rcases Nat.eq_zero_or_pos low with h0 | h0
    · exact h0
    · have : 10 ^ 9 * 1 ≤ 10 ^ 9 * low := Nat.mul_le_mul_left _ h0
      have e : (10 : Nat) ^ 9 = 1000000000 := by decide
      rw [e] at *
      omega
  rw [h2, Nat.mul_zero, Nat.add_zero] at h
  rw [dval_append, List.length_append, hE, Nat.pow_add, h, hlow, Nat.add_assoc, Nat.mul_assoc, ← Nat.mul_add]
  have e : (10 : Nat) ^ 9 = 1000000000 := by decide
  rw [e, Nat.mod_add_div]
  exact hx

theorem digits_few (D : List Nat) (x n : Nat) (hx : 0 < x) (h : dval D + 10 ^ D.length * x = n) (hn : n < 4294967296 ^ 32) : D.length ≤ 308 := by
  have h1 : 10 ^ D.length * 1 ≤ 10 ^ D.length * x := Nat.mul_le_mul_left _ hx
  have h2 : (4294967296 : Nat) ^ 32 < 10 ^ 309 := by decide +kernel
  have h3 : 10 ^ D.length < 10 ^ 309 := by
    rw [Nat.mul_one] at h1
    exact Nat.lt_of_le_of_lt (Nat.le_trans h1 (by rw [← h]; exact Nat.le_add_left _ _)) (Nat.lt_trans hn h2)
  have := (Nat.pow_lt_pow_iff_right (a := 10) (by decide)).1 h3
  omega

theorem info_u8 : (Tryd.prog.info? 5).map (fun i => (i.zero, i.size, i.bytes)) = some (some (.int .u8 0), 1, 1) := by kernel_rfl

/-- Bytes that are the call's own. -/
def OB (w : World) (base : Nat) (v : Value) (D : List Nat) : Prop := w.ownsRow base 5 1 v D.length (D.map (fun n => Value.int .u8 (n : Nat)))

/-- A slice of limbs that no write to the bytes can meet. -/
def Sep (w : World) (base : Nat) (a : Option Addr) (M : List Nat) : Prop := M = [] ∨ ∀ p, a = some p → p.block < base ∨ ∃ cs, w.heap[p.block]? = some (.cells cs 53 (0, 0))

theorem Sep.start {w : World} {a : Option Addr} {M : List Nat} (h : At w a M) : Sep w w.heap.size a M := by
  rcases h with h | ⟨b, o, e, hlt, _⟩
  · exact Or.inl h
  · exact Or.inr fun p hp => by rw [e] at hp; cases hp; exact Or.inl hlt

/-- Behind an append onto the bytes the limbs are there as they were. -/
theorem at_grown {w w' : World} {base : Nat} {v : Value} {D M : List Nat} {a : Option Addr} {o : Obj} (h : OB w base v D) (hs : Sep w base a M) (hA : At w a M) (hg : (w.alloc o).grownBy w' v.ownBlock) : At w' a M ∧ Sep w' base a M := by
  rcases hs with hs | hs
  · exact ⟨Or.inl hs, Or.inl hs⟩
  · have hn : ∀ p, a = some p → v.ownBlock ≠ some p.block := by
      intro p hp e
      obtain ⟨_, ⟨h1, _⟩ | ⟨g, cap, cur, hv, hb, hh, _⟩⟩ := h
      · rw [h1] at e; simp [Value.ownBlock] at e
      · rw [hv] at e
        simp only [Value.ownBlock, Option.some.injEq] at e
        rcases hs p hp with h2 | ⟨cs, h2⟩
        · omega
        · rw [← e, hh] at h2
          simp at h2
    constructor
    · rcases hA.mono ((Upd.refl [] w).alloc o) with h | ⟨b, o', e, hlt, hc⟩
      · exact Or.inl h
      · exact Or.inr ⟨b, o', e, Nat.lt_of_lt_of_le hlt hg.size, fun i hi => hg.cell (hc i hi) (fun h => hn _ e h.symm)⟩
    · refine Or.inr fun p hp => ?_
      rcases hs p hp with h1 | ⟨cs, h1⟩
      · exact Or.inl h1
      · have h2 := (Below.heap_alloc w o _ (lt_of_block h1)).trans h1
        exact Or.inr ⟨cs, (hg.block p.block (lt_of_block h2) (fun e => hn p hp e.symm)).trans h2⟩

theorem OB.upd {w w' : World} {base : Nat} {v : Value} {D : List Nat} (h : OB w base v D) (hu : Upd [] w w') : OB w' base v D := by
  obtain ⟨h0, h1 | ⟨g, cap, cur, hv, hb, hh, h2⟩⟩ := h
  · exact ⟨h0, Or.inl h1⟩
  · exact ⟨h0, Or.inr ⟨g, cap, cur, hv, hb, (hu.block g (lt_of_block hh) (by simp)).trans hh, h2⟩⟩

end Go.Proofs.YtpeganecbjefoaaDoor
