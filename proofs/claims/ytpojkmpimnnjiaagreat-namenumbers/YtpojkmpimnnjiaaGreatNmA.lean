/- Worlds: what has turned between two of them. -/
import Derived.Test.YtpojkmpimnnjiaaGreatProg
import Derived.KernelRfl
import Derived.WalkKit
import Derived.WalkSpells
import Derived.WalkLawsBesides
import Derived.Laws.EntriesVeiled
namespace Go.Proofs.YtpojkmpimnnjiaaGreat
open Go.RowKit

/-- Nothing that was there has turned but in the blocks that are named; there may be new ones. -/
structure Upd (S : List Nat) (w w' : World) : Prop where
  os : w'.os = w.os
  tape : w'.tape = w.tape
  output : w'.output = w.output
  size : w.heap.size ≤ w'.heap.size
  block : ∀ k, k < w.heap.size → k ∉ S → w'.heap[k]? = w.heap[k]?

theorem Upd.refl (S : List Nat) (w : World) : Upd S w w := ⟨rfl, rfl, rfl, Nat.le_refl _, fun _ _ _ => rfl⟩
theorem Upd.trans {S : List Nat} {a b c : World} (h : Upd S a b) (k : Upd S b c) : Upd S a c :=
  ⟨k.os.trans h.os, k.tape.trans h.tape, k.output.trans h.output, Nat.le_trans h.size k.size, fun i hi hn => (k.block i (Nat.lt_of_lt_of_le hi h.size) hn).trans (h.block i hi hn)⟩
/-- A second step whose blocks lie beyond what the first one began with, or are among the first one's. -/
theorem Upd.then {S U : List Nat} {a b c : World} (h : Upd S a b) (k : Upd U b c) (hU : ∀ x, x ∈ U → a.heap.size ≤ x ∨ x ∈ S) : Upd S a c :=
  ⟨k.os.trans h.os, k.tape.trans h.tape, k.output.trans h.output, Nat.le_trans h.size k.size, fun i hi hn =>
    (k.block i (Nat.lt_of_lt_of_le hi h.size) (fun hm => by rcases hU i hm with h1 | h1; · omega
                                                            · exact hn h1)).trans (h.block i hi hn)⟩
theorem Upd.drew {S : List Nat} {a b : World} (h : Upd S a b) : Upd S a b.drew := ⟨h.os, h.tape, h.output, h.size, h.block⟩
theorem Upd.drewN {S : List Nat} {a b : World} (h : Upd S a b) (n : Nat) : Upd S a (b.drewN n) := ⟨h.os, h.tape, h.output, h.size, h.block⟩
theorem Upd.alloc {S : List Nat} {a b : World} (h : Upd S a b) (o : Obj) : Upd S a (b.alloc o) :=
  h.trans ⟨rfl, rfl, rfl, by simp, fun k hk _ => Below.heap_alloc _ _ _ hk⟩
theorem Upd.setCell {S : List Nat} {a b : World} (h : Upd S a b) {p : Addr} (hp : a.heap.size ≤ p.block ∨ p.block ∈ S) (u : Value) : Upd S a (b.setCell p u) :=
  ⟨h.os, h.tape, h.output, by rw [World.size_setCell]; exact h.size, fun k hk hn => by
    rw [Below.heap_setCell _ _ _ _ (fun e => by rcases hp with h1 | h1
                                                · omega
                                                · exact hn (e ▸ h1))]; exact h.block k hk hn⟩
theorem Upd.grown {S : List Nat} {a b c : World} {row : Option Nat} (h : Upd S a b) (hg : b.grownBy c row) (hr : ∀ k, row = some k → a.heap.size ≤ k ∨ k ∈ S) : Upd S a c :=
  ⟨hg.os.trans h.os, hg.tape.trans h.tape, hg.output.trans h.output, Nat.le_trans h.size hg.size, fun k hk hn =>
    (hg.block k (Nat.lt_of_lt_of_le hk h.size) (fun e => by rcases hr k e.symm with h1 | h1
                                                            · omega
                                                            · exact hn h1)).trans (h.block k hk hn)⟩
theorem Upd.below {w w' : World} (h : Upd [] w w') : Below w.heap.size w w' := ⟨h.os, h.tape, h.output, h.size, fun k hk => h.block k hk (by simp)⟩
theorem Upd.cell {S : List Nat} {w w' : World} (h : Upd S w w') {p : Addr} (hp : p.block < w.heap.size) (hn : p.block ∉ S) : w'.cell? p = w.cell? p := World.cell?_of_block (w := w) (h.block p.block hp hn)

/-- Nothing that was there has turned but in blocks that P tells; there may be new ones. -/
structure UpP (P : Nat → Prop) (w w' : World) : Prop where
  os : w'.os = w.os
  tape : w'.tape = w.tape
  output : w'.output = w.output
  size : w.heap.size ≤ w'.heap.size
  block : ∀ k, k < w.heap.size → ¬ P k → w'.heap[k]? = w.heap[k]?

theorem UpP.refl (P : Nat → Prop) (w : World) : UpP P w w := ⟨rfl, rfl, rfl, Nat.le_refl _, fun _ _ _ => rfl⟩
theorem UpP.thenP {P Q : Nat → Prop} {a b c : World} (h : UpP P a b) (k : UpP Q b c) (hQ : ∀ x, Q x → a.heap.size ≤ x ∨ P x) : UpP P a c :=
  ⟨k.os.trans h.os, k.tape.trans h.tape, k.output.trans h.output, Nat.le_trans h.size k.size, fun i hi hn =>
    (k.block i (Nat.lt_of_lt_of_le hi h.size) (fun hm => by rcases hQ i hm with h1 | h1; · omega
                                                            · exact hn h1)).trans (h.block i hi hn)⟩
theorem UpP.trans {P : Nat → Prop} {a b c : World} (h : UpP P a b) (k : UpP P b c) : UpP P a c := h.thenP k (fun _ hx => Or.inr hx)
theorem UpP.mono {P Q : Nat → Prop} {a b : World} (h : UpP P a b) (hPQ : ∀ x, P x → Q x) : UpP Q a b := ⟨h.os, h.tape, h.output, h.size, fun k hk hn => h.block k hk (fun hp => hn (hPQ k hp))⟩
theorem Upd.toP {S : List Nat} {a b : World} (h : Upd S a b) : UpP (fun x => x ∈ S) a b := ⟨h.os, h.tape, h.output, h.size, h.block⟩
theorem Upd.toN {P : Nat → Prop} {a b : World} (h : Upd [] a b) : UpP P a b := ⟨h.os, h.tape, h.output, h.size, fun k hk _ => h.block k hk (by simp)⟩
theorem UpP.upd {P : Nat → Prop} {a b : World} (h : UpP P a b) (hP : ∀ x, P x → a.heap.size ≤ x) : Upd [] a b := ⟨h.os, h.tape, h.output, h.size, fun k hk _ => h.block k hk (fun hp => by have := hP k hp; omega)⟩
theorem UpP.drew {P : Nat → Prop} {a b : World} (h : UpP P a b) : UpP P a b.drew := ⟨h.os, h.tape, h.output, h.size, h.block⟩
theorem UpP.alloc {P : Nat → Prop} {a b : World} (h : UpP P a b) (o : Obj) : UpP P a (b.alloc o) := h.trans (Upd.toN ((Upd.refl [] b).alloc o))
theorem UpP.grown {P : Nat → Prop} {a b c : World} {row : Option Nat} (h : UpP P a b) (hg : b.grownBy c row) (hr : ∀ k, row = some k → a.heap.size ≤ k ∨ P k) : UpP P a c :=
  ⟨hg.os.trans h.os, hg.tape.trans h.tape, hg.output.trans h.output, Nat.le_trans h.size hg.size, fun k hk hn =>
    (hg.block k (Nat.lt_of_lt_of_le hk h.size) (fun e => by rcases hr k e.symm with h1 | h1
                                                            · omega
                                                            · exact hn h1)).trans (h.block k hk hn)⟩
theorem upd_of_below {w w' : World} (h : Below w.heap.size w w') : Upd [] w w' := ⟨h.os, h.tape, h.output, h.size, fun k hk _ => h.block k hk⟩

/-- A block of cells. -/
def Cl (w : World) (g : Nat) (cs : Array Value) (T : TypeId) : Prop := w.heap[g]? = some (.cells cs T (0, 0))
theorem Cl.lt {w : World} {g : Nat} {cs : Array Value} {T : TypeId} (h : Cl w g cs T) : g < w.heap.size := lt_of_block h
theorem Cl.mono {P : Nat → Prop} {w w' : World} {g : Nat} {cs : Array Value} {T : TypeId} (h : Cl w g cs T) (hu : UpP P w w') (hn : ¬ P g) : Cl w' g cs T := (hu.block g h.lt hn).trans h
theorem Cl.upd {S : List Nat} {w w' : World} {g : Nat} {cs : Array Value} {T : TypeId} (h : Cl w g cs T) (hu : Upd S w w') (hn : g ∉ S) : Cl w' g cs T := (hu.block g h.lt hn).trans h
theorem Cl.new (w : World) (cs : Array Value) (T : TypeId) (g : Nat) (h : g = w.heap.size) : Cl (w.alloc (.cells cs T)) g cs T := by
  subst h; exact heap_alloc_new w _
theorem Cl.old {w : World} {g : Nat} {cs : Array Value} {T : TypeId} (h : Cl w g cs T) (o : Obj) : Cl (w.alloc o) g cs T := (Below.heap_alloc w o g h.lt).trans h
theorem Cl.cell {w : World} {g : Nat} {cs : Array Value} {T : TypeId} (h : Cl w g cs T) (i : Nat) : w.cell? ⟨g, i, none⟩ = cs[i]? := cell_of_row w g i _ _ _ h
theorem Cl.set {w : World} {g : Nat} {cs : Array Value} {T : TypeId} (h : Cl w g cs T) (i : Nat) (v : Value) : Cl (w.setCell ⟨g, i, none⟩ v) g (cs.setIfInBounds i v) T := by
  unfold Cl
  rw [heap_setCell_same w g i _ _ _ h]
theorem Cl.free {w : World} {g : Nat} {cs : Array Value} {T : TypeId} (h : Cl w g cs T) (i : Nat) : w.frozen? ⟨g, i, none⟩ = false := frozen_of_row w g i _ _ h
theorem Cl.ne {w : World} {b b' : Nat} {v v' : Array Value} {T T' : TypeId} (h : Cl w b v T) (h' : Cl w b' v' T') (hT : T ≠ T') : b ≠ b' := fun e => by
  subst e
  have := h.symm.trans h'
  simp at this
  exact hT this.2
theorem alloc_at_new {w : World} {o : Obj} {k : Nat} (h : k = w.heap.size) : (w.alloc o).heap[k]? = some o := by subst h; exact heap_alloc_new w o
theorem alloc_at_old {w : World} {o o' : Obj} {k : Nat} (h : k < w.heap.size) (hw : w.heap[k]? = some o') : (w.alloc o).heap[k]? = some o' := (Below.heap_alloc w o k h).trans hw

end Go.Proofs.YtpojkmpimnnjiaaGreat
