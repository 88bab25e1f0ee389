/- The closure of rightKids of package node. -/
import Derived.Test.YtejcppnleckmfaaDoorNdFo
namespace Go.Proofs.YtejcppnleckmfaaDoor
open Go.RowKit

/-- A box of a row of roles. -/
def RolB (w : World) (g : Nat) (v : Value) : Prop := w.heap[g]? = some (.cells #[v] 61 (0, 0))
theorem RolB.lt {w : World} {g : Nat} {v : Value} (h : RolB w g v) : g < w.heap.size := lt_of_block h
theorem RolB.mono {S : List Nat} {w w' : World} {g : Nat} {v : Value} (h : RolB w g v) (hu : Upd S w w') (hn : g ∉ S) : RolB w' g v := (hu.block g h.lt hn).trans h
theorem RolB.cell {w : World} {g : Nat} {v : Value} (h : RolB w g v) : w.cell? ⟨g, 0, none⟩ = some v := cell_of_row w g 0 _ _ _ h
theorem RolB.free {w : World} {g : Nat} {v : Value} (h : RolB w g v) : w.frozen? ⟨g, 0, none⟩ = false := frozen_of_row w g 0 _ _ h
theorem RolB.set {w : World} {g : Nat} {v : Value} (h : RolB w g v) (u : Value) : RolB (w.setCell ⟨g, 0, none⟩ u) g u := by
  unfold RolB
  rw [heap_setCell_same w g 0 _ _ _ h]
  rfl

set_option maxHeartbeats 1000000 in
set_option maxRecDepth 100000 in
theorem rk1_last (a : Option Addr) (n c g b o c2 : Nat) (k : Int) (s : ByteArray) (num pos r : Int) (w : World) (z : Bool) (hg : RolB w g (.slice (some ⟨b, o, none⟩) 1 c2)) (hb : b < w.heap.size) (hc : w.cell? ⟨b, o, none⟩ = some (.int .u8 r))
    (hI : ∀ W, Upd [] w W → Calls Tryd.prog 27 #[.agg #[.int .u8 k, .string s, .int .i64 num, .int .i64 pos, .slice a n c], .int .u8 r] W fun e w' => e = .returned (.bool z) ∧ Upd [] W w') :
    Calls Tryd.prog 48 #[.agg #[.int .u8 k, .string s, .int .i64 num, .int .i64 pos, .slice a n c], .pointer (some ⟨g, 0, none⟩)] w fun e w' => e = .returned (.bool z) ∧ Upd [] w w' := by
  have HU0 : Hid (Upd [] w (w.alloc (.cells #[.int .u8 k, .string s, .int .i64 num, .int .i64 pos, .slice a n c] 25))) := (Upd.refl [] w).alloc _
  have tb0 : Tb (w.alloc (.cells #[.int .u8 k, .string s, .int .i64 num, .int .i64 pos, .slice a n c] 25)) w.heap.size #[.int .u8 k, .string s, .int .i64 num, .int .i64 pos, .slice a n c] := Tb.new _ _ _ rfl
  have x0 := (hg.mono HU0.out (by simp)).cell
  have x1 : (w.alloc (.cells #[.int .u8 k, .string s, .int .i64 num, .int .i64 pos, .slice a n c] 25)).cell? ⟨b, o, none⟩ = some (.int .u8 r) := (HU0.out.cell (p := ⟨b, o, none⟩) hb (by simp)).trans hc
  have HI : Hid (∀ W, Upd [] w W → Calls Tryd.prog 27 #[.agg #[.int .u8 k, .string s, .int .i64 num, .int .i64 pos, .slice a n c], .int .u8 r] W fun e w' => e = .returned (.bool z) ∧ Upd [] W w') := hI
  clear hg hc hI
  go_enter Tryd.func48, Tryd.ntmps48
  go_wp2_with (first | (refine load_G _ _ rfl _ _ rfl tb0 rfl rfl ?_) | fail)
  refine (HI.out _ HU0.out).mono ?_
  rintro e w1 ⟨rfl, hu⟩
  have HU1 : Hid (Upd [] w w1) := HU0.out.trans hu
  clear hu tb0 x0 x1
  go_wp2
  go_ret
  exact ⟨rfl, HU1.out⟩

set_option maxHeartbeats 1000000 in
set_option maxRecDepth 100000 in
theorem rk1_more (a : Option Addr) (n c g b o l c2 : Nat) (k : Int) (s : ByteArray) (num pos r : Int) (w : World) (z : Bool) (hl : 1 < l) (hlc : l ≤ c2) (hc2 : c2 ≤ 9223372036854775807) (hg : RolB w g (.slice (some ⟨b, o, none⟩) l c2)) (hb : b < w.heap.size) (hc : w.cell? ⟨b, o, none⟩ = some (.int .u8 r))
    (hI : ∀ W, Upd [g] w W → Calls Tryd.prog 27 #[.agg #[.int .u8 k, .string s, .int .i64 num, .int .i64 pos, .slice a n c], .int .u8 r] W fun e w' => e = .returned (.bool z) ∧ Upd [] W w') :
    Calls Tryd.prog 48 #[.agg #[.int .u8 k, .string s, .int .i64 num, .int .i64 pos, .slice a n c], .pointer (some ⟨g, 0, none⟩)] w fun e w' => e = .returned (.bool z) ∧ RolB w' g (.slice (some ⟨b, o + 1, none⟩) (l - 1) (c2 - 1)) ∧ Upd [g] w w' := by
  have HU0 : Hid (Upd [] w (w.alloc (.cells #[.int .u8 k, .string s, .int .i64 num, .int .i64 pos, .slice a n c] 25))) := (Upd.refl [] w).alloc _
  have hne : (g = w.heap.size) = False := by simp; exact Nat.ne_of_lt hg.lt
  have r0 := hg.mono HU0.out (by simp)
  have x0 := r0.cell
  have f0 := r0.free
  have R1 : Hid (RolB ((w.alloc (.cells #[.int .u8 k, .string s, .int .i64 num, .int .i64 pos, .slice a n c] 25)).setCell ⟨g, 0, none⟩ (.slice (some ⟨b, o + 1, none⟩) (l - 1) (c2 - 1))) g (.slice (some ⟨b, o + 1, none⟩) (l - 1) (c2 - 1))) := r0.set _
  have HU1 : Hid (Upd [g] w ((w.alloc (.cells #[.int .u8 k, .string s, .int .i64 num, .int .i64 pos, .slice a n c] 25)).setCell ⟨g, 0, none⟩ (.slice (some ⟨b, o + 1, none⟩) (l - 1) (c2 - 1)))) := ((Upd.refl [g] w).alloc _).setCell (Or.inr (by simp)) _
  have tb0 : Tb ((w.alloc (.cells #[.int .u8 k, .string s, .int .i64 num, .int .i64 pos, .slice a n c] 25)).setCell ⟨g, 0, none⟩ (.slice (some ⟨b, o + 1, none⟩) (l - 1) (c2 - 1))) w.heap.size #[.int .u8 k, .string s, .int .i64 num, .int .i64 pos, .slice a n c] := (Tb.new _ _ _ rfl).other _ (Nat.ne_of_lt hg.lt) _
  have x1 : (w.alloc (.cells #[.int .u8 k, .string s, .int .i64 num, .int .i64 pos, .slice a n c] 25)).cell? ⟨b, o, none⟩ = some (.int .u8 r) := (HU0.out.cell (p := ⟨b, o, none⟩) hb (by simp)).trans hc
  have i0 : (1 : Int) < (l : Int) := by omega
  have i1 : (0 : Int) < (l : Int) := by omega
  have i2 : (1 : Int) ≤ (c2 : Int) := by omega
  have i3 : (1 : Int) ≤ (l : Int) := by omega
  have i4 : (l : Int) ≤ (c2 : Int) := by omega
  have i5 : (1 : Int) < (c2 : Int) := by omega
  have HI : Hid (∀ W, Upd [g] w W → Calls Tryd.prog 27 #[.agg #[.int .u8 k, .string s, .int .i64 num, .int .i64 pos, .slice a n c], .int .u8 r] W fun e w' => e = .returned (.bool z) ∧ Upd [] W w') := hI
  clear hg hc hI r0
  go_enter Tryd.func48, Tryd.ntmps48
  go_wp2_with (first | (refine load_G _ _ rfl _ _ rfl tb0 rfl rfl ?_) | fail)
  refine (HI.out _ HU1.out).mono ?_
  rintro e w1 ⟨rfl, hu⟩
  have HU2 : Hid (Upd [g] w w1) := HU1.out.then hu (by simp)
  have R2 : Hid (RolB w1 g (.slice (some ⟨b, o + 1, none⟩) (l - 1) (c2 - 1))) := R1.out.mono hu (by simp)
  clear hu tb0 x0 x1 f0
  go_wp2
  go_ret
  exact ⟨rfl, R2.out, HU2.out⟩

end Go.Proofs.YtejcppnleckmfaaDoor
