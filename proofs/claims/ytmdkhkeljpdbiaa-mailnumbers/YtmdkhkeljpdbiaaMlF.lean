/- Boxes. -/
import Derived.Test.YtmdkhkeljpdbiaaMlE
namespace Go.Proofs.Ytmdkhkeljpdbiaa
open Go.RowKit

def Bx (w : World) (b : Nat) (v : Value) (k : Int) : Prop := w.heap[b]? = some (.cells #[.pointer (some ⟨b, 0, none⟩), v, .int .i64 k] 30 (0, 0))
theorem Bx.lt {w : World} {b : Nat} {v : Value} {k : Int} (h : Bx w b v k) : b < w.heap.size := lt_of_block h
theorem Bx.c0 {w : World} {b : Nat} {v : Value} {k : Int} (h : Bx w b v k) : w.cell? ⟨b, 0, none⟩ = some (.pointer (some ⟨b, 0, none⟩)) := cell_of_row w b 0 _ _ _ h
theorem Bx.c1 {w : World} {b : Nat} {v : Value} {k : Int} (h : Bx w b v k) : w.cell? ⟨b, 1, none⟩ = some v := cell_of_row w b 1 _ _ _ h
theorem Bx.c2 {w : World} {b : Nat} {v : Value} {k : Int} (h : Bx w b v k) : w.cell? ⟨b, 2, none⟩ = some (.int .i64 k) := cell_of_row w b 2 _ _ _ h
theorem Bx.f {w : World} {b : Nat} {v : Value} {k : Int} (h : Bx w b v k) (i : Nat) : w.frozen? ⟨b, i, none⟩ = false := frozen_of_row w b i _ _ h
theorem Bx.mono {S : List Nat} {w w' : World} {b : Nat} {v : Value} {k : Int} (h : Bx w b v k) (hu : Upd S w w') (hn : b ∉ S) : Bx w' b v k := (hu.block b h.lt hn).trans h
theorem Bx.set1 {w : World} {b : Nat} {v : Value} {k : Int} (h : Bx w b v k) (u : Value) : Bx (w.setCell ⟨b, 1, none⟩ u) b u k := by
  unfold Bx
  rw [heap_setCell_same w b 1 _ _ _ h]; rfl
theorem Bx.set2 {w : World} {b : Nat} {v : Value} {k : Int} (h : Bx w b v k) (m : Int) : Bx (w.setCell ⟨b, 2, none⟩ (.int .i64 m)) b v m := by
  unfold Bx
  rw [heap_setCell_same w b 2 _ _ _ h]; rfl

theorem und_pbox : Try.prog.underlying 28 = some (.pointer 30) := by kernel_rfl
theorem size_box (w : World) : (Go.sizeOf 30).run Try.prog w = .ok 3 w := by rfl
theorem ptr_sameIn (w : World) (b o d : Nat) : (Op.equalIn (d + 1) 28 (.pointer (some ⟨b, o, none⟩)) (.pointer (some ⟨b, o, none⟩))).run Try.prog w = .ok true w := by
  simp [Op.equalIn, run_underlying und_pbox, sameAddr]
theorem ptr_nilIn (w : World) (b o d : Nat) : (Op.equalIn (d + 1) 28 (.pointer none) (.pointer (some ⟨b, o, none⟩))).run Try.prog w = .ok false w := by
  simp [Op.equalIn, run_underlying und_pbox]
theorem ptr_same (w : World) (b o : Nat) : (binOp .eql 28 (.pointer (some ⟨b, o, none⟩)) (.pointer (some ⟨b, o, none⟩))).run Try.prog w = .ok (.bool true) w := by
  simp only [binOp]
  simp [Op.equal, Op.maxDepth, ptr_sameIn w b o 9999]
theorem ptr_nil (w : World) (b o : Nat) : (binOp .eql 28 (.pointer none) (.pointer (some ⟨b, o, none⟩))).run Try.prog w = .ok (.bool false) w := by
  simp only [binOp]
  simp [Op.equal, Op.maxDepth, ptr_nilIn w b o 9999]

set_option maxRecDepth 10000 in
theorem made_ok (w : World) (b : Nat) (v : Value) (k : Int) (h : Bx w b v k) : Calls Try.prog 23 #[.pointer (some ⟨b, 0, none⟩)] w fun e w' => e = .returned (.bool true) ∧ w' = w := by
  have e0 := h.c0
  have e1 := ptr_same w b 0
  go_enter Try.func23, Try.ntmps23
  go_wp2
  go_ret
  exact ⟨rfl, rfl⟩
theorem made_nil (w : World) : Calls Try.prog 23 #[.pointer none] w fun e w' => e = .returned (.bool false) ∧ w' = w := by
  go_enter Try.func23, Try.ntmps23
  go_wp2
  go_ret
  exact ⟨rfl, rfl⟩
theorem made_zero (w : World) (b : Nat) (e0 : w.cell? ⟨b, 0, none⟩ = some (.pointer none)) : Calls Try.prog 23 #[.pointer (some ⟨b, 0, none⟩)] w fun e w' => e = .returned (.bool false) ∧ w' = w := by
  have e1 := ptr_nil w b 0
  go_enter Try.func23, Try.ntmps23
  go_wp2
  go_ret
  exact ⟨rfl, rfl⟩

theorem new_any (w : World) : Calls Try.prog 16 #[] w fun e w' => e = .returned (.pointer (some ⟨w.heap.size, 0, none⟩)) ∧ Bx w' w.heap.size (.slice none 0 0) 0 ∧ Upd [] w w' := by
  go_enter Try.func16, Try.ntmps16
  go_wp2
  go_ret
  exact ⟨rfl, alloc_at_new rfl, (Upd.refl [] w).alloc _⟩

end Go.Proofs.Ytmdkhkeljpdbiaa
