/- Rows that the call has made itself: bytes, tokens. -/
import Derived.Test.YtiapdapkklcliaaGreatDoorBase
import Derived.Laws.AppendOwn
import Derived.Laws.OwnMore
import Derived.Laws.IdiomStrings
namespace Go.Proofs.YtiapdapkklcliaaGreatDoor
open Go.RowKit

/-- A row that the call has made itself, from that block on. -/
def Own (w : World) (base : Nat) (T : TypeId) (sz : Nat) (v : Value) (n : Nat) (xs : List Value) : Prop := w.ownsRow base T sz v n xs

theorem Own.nil (w : World) (base : Nat) (T : TypeId) (sz : Nat) : Own w base T sz (.slice none 0 0) 0 [] := World.ownsRow_nil _ _ _ _
theorem Own.form {w : World} {base : Nat} {T : TypeId} {sz : Nat} {v : Value} {n : Nat} {xs : List Value} (h : Own w base T sz v n xs) : ∃ a c, v = .slice a n c ∧ c ≤ 9223372036854775807 := by
  obtain ⟨_, ⟨rfl, rfl⟩ | ⟨g, cap, cur, rfl, _, _, _, hm, _⟩⟩ := h
  · exact ⟨none, 0, rfl, by omega⟩
  · exact ⟨_, cap, rfl, by unfold maxLen at hm; omega⟩
theorem Own.upd {S : List Nat} {w w' : World} {base : Nat} {T : TypeId} {sz : Nat} {v : Value} {n : Nat} {xs : List Value} (h : Own w base T sz v n xs) (hu : Upd S w w') (hn : ∀ x, x ∈ S → x < base) : Own w' base T sz v n xs := by
  obtain ⟨h0, h1 | ⟨g, cap, cur, hv, hb, hh, h2⟩⟩ := h
  · exact ⟨h0, Or.inl h1⟩
  · exact ⟨h0, Or.inr ⟨g, cap, cur, hv, hb, (hu.block g (lt_blk hh) (fun hm => by have := hn g hm; omega)).trans hh, h2⟩⟩
theorem Own.lower {w : World} {base b2 : Nat} {T : TypeId} {sz : Nat} {v : Value} {n : Nat} {xs : List Value} (h : Own w base T sz v n xs) (hb : b2 ≤ base) : Own w b2 T sz v n xs := by
  obtain ⟨h0, h1 | ⟨g, cap, cur, hv, hbb, hh, h2⟩⟩ := h
  · exact ⟨h0, Or.inl h1⟩
  · exact ⟨h0, Or.inr ⟨g, cap, cur, hv, by omega, hh, h2⟩⟩
theorem Own.drew {w : World} {base : Nat} {T : TypeId} {sz : Nat} {v : Value} {n : Nat} {xs : List Value} (h : Own w base T sz v n xs) : Own w.drew base T sz v n xs := h
theorem Own.cell {w : World} {base : Nat} {T : TypeId} {sz : Nat} {v : Value} {n : Nat} {xs : List Value} (h : Own w base T sz v n xs) (g cap : Nat) (hv : v = .slice (some ⟨g, 0, none⟩) n cap) (j : Nat) (hj : j < n * sz) : w.cell? ⟨g, j, none⟩ = xs[j]? := by
  subst hv
  exact World.ownsRow.cellAt h j hj
/-- Behind an append nothing else has turned. -/
theorem Own.grown {w w0 w' : World} {base : Nat} {T : TypeId} {sz : Nat} {v : Value} {n : Nat} {xs : List Value} {S : List Nat} (h : Own w base T sz v n xs) (hu : Upd S w0 w) (o : Obj) (hg : (w.alloc o).grownBy w' v.ownBlock) (hb : w0.heap.size ≤ base) : Upd S w0 w' :=
  (hu.alloc o).grown hg (fun k hk => Or.inl (Nat.le_trans hb (World.ownsRow.lt h k hk).1))
theorem Own.blk {w w' : World} {base : Nat} {T : TypeId} {sz : Nat} {v : Value} {n : Nat} {xs : List Value} {g : Nat} {cs : Array Value} {t : TypeId} (h : Own w base T sz v n xs) (o : Obj) (hg : (w.alloc o).grownBy w' v.ownBlock) (hB : Blk w g cs t) (hlt : g < base) : Blk w' g cs t := by
  have h2 : (w.alloc o).heap[g]? = some (.cells cs t (0, 0)) := (Below.heap_alloc w o g hB.lt).trans hB
  refine (hg.block g (lt_blk h2) (fun e => ?_)).trans h2
  have := (World.ownsRow.lt h g e.symm).1
  omega

theorem info_parts {P : Program} {t : TypeId} {z : Value} {n b : Nat} (h : (P.info? t).map (fun i => (i.zero, i.size, i.bytes)) = some (some z, n, b)) : ∃ i, P.info? t = some i ∧ i.zero = some z ∧ i.size = n ∧ i.bytes = b := by
  obtain ⟨i, h1, h2⟩ := Option.map_eq_some_iff.1 h
  simp only [Prod.mk.injEq] at h2
  exact ⟨i, h1, h2.1, h2.2.1, h2.2.2⟩
theorem info_u8 : (Tryz.prog.info? 5).map (fun i => (i.zero, i.size, i.bytes)) = some (some (.int .u8 0), 1, 1) := by kernel_rfl
theorem info_tok : (Tryz.prog.info? 43).map (fun i => (i.zero, i.size, i.bytes)) = some (some (.agg #[.int .u8 0, .string ⟨#[]⟩, .int .i64 0]), 3, 32) := by kernel_rfl

/-- Bytes as cells. -/
def u8s (D : List UInt8) : List Value := D.map fun c => .int .u8 c.toNat
def OB (w : World) (base : Nat) (v : Value) (D : List UInt8) : Prop := Own w base 5 1 v D.length (u8s D)
theorem OB.snoc {w : World} {base : Nat} {v : Value} {D : List UInt8} {c : UInt8} (h : w.ownsRow base 5 1 v (D.length + 1) (u8s D ++ [.int .u8 c.toNat])) : OB w base v (D ++ [c]) := by
  unfold OB Own
  rw [List.length_append]
  have : u8s (D ++ [c]) = u8s D ++ [.int .u8 c.toNat] := by simp [u8s]
  rw [this]; exact h
theorem conv_nil (w : World) : (convert 37 9 (.slice none 0 0)).run Tryz.prog w = .ok (.string ⟨#[]⟩) w := by kernel_rfl
theorem OB.conv {w : World} {base : Nat} {v : Value} {D : List UInt8} (h : OB w base v D) : (convert 37 9 v).run Tryz.prog w = .ok (.string (str D)) w := by
  have h' := h
  obtain ⟨_, ⟨rfl, h0⟩ | ⟨g, cap, cur, rfl, _, _, _⟩⟩ := h
  · have : D = [] := List.eq_nil_of_length_eq_zero h0
    subst this
    exact conv_nil w
  · refine run_convert_bytes_back (P := Tryz.prog) w 37 9 5 ⟨g, 0, none⟩ cap D Tryz.underlying37 Tryz.underlying5 Tryz.underlying9 (fun j hj => ?_)
    rw [Addr.add_lit, Nat.zero_add, Own.cell h' g cap rfl j (by omega)]
    simp [u8s, hj]

end Go.Proofs.YtiapdapkklcliaaGreatDoor
