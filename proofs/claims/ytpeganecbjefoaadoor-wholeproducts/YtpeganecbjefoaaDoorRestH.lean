/- Helpers of WholeRest: integers cut towards 0, and a term's sign laid aside. -/
import Derived.Test.YtpeganecbjefoaaDoorDivB
import Derived.Test.YtpeganecbjefoaaDoorCopy
namespace Go.Proofs.YtpeganecbjefoaaDoor
open Go.RowKit

theorem tdiv_fit (x y : Int) {B : Nat} (h : x.natAbs < B) : (x.tdiv y * y).natAbs < B := by
  rw [Int.natAbs_mul, Int.natAbs_tdiv]
  exact Nat.lt_of_le_of_lt (Nat.div_mul_le_self _ _) h
theorem tdiv_back (x y : Int) : x.tdiv y * y + x.tmod y = x := by
  rw [Int.mul_comm]; exact Int.mul_tdiv_add_tmod x y
theorem tmod_less (x y : Int) (hy : y ≠ 0) : cmpZ ((x.tmod y).natAbs : Int) (y.natAbs : Int) = -1 := by
  have h : (x.tmod y).natAbs < y.natAbs := by
    rw [Int.natAbs_tmod]
    exact Nat.mod_lt _ (by omega)
  unfold cmpZ
  rw [if_pos (by omega)]
/-- The rest has the first one's sign, or is 0. -/
theorem tmod_sign (x y : Int) (h : x.tmod y ≠ 0) : decide (x.tmod y < 0) = decide (x < 0) := by
  by_cases hx : 0 ≤ x
  · have := Int.tmod_nonneg y hx
    rw [decide_eq_false (by omega), decide_eq_false (by omega)]
  · have h1 : 0 ≤ (-x).tmod y := Int.tmod_nonneg y (by omega)
    rw [Int.neg_tmod] at h1
    rw [decide_eq_true (by omega), decide_eq_true (by omega)]
theorem rest_sign {w w' : World} {na nr : Bool} {a r : Option Addr} {A R : List Nat} {x y : Int} (hx : TI w na a A x) (hr : TI w' nr r R (x.tmod y)) : R.length = 0 ∨ nr = na := by
  by_cases h : x.tmod y = 0
  · left
    have : R = [] := hr.norm.nil_iff.2 (by rw [h]; rfl)
    rw [this]; rfl
  · right
    rw [hx.sgn, hr.sgn]
    exact tmod_sign x y h

theorem TI.abs {w : World} {neg : Bool} {a : Option Addr} {M : List Nat} {z : Int} (h : TI w neg a M z) : TI w false a M (z.natAbs : Int) :=
  ⟨by rw [Int.natAbs_natCast]; exact h.norm, h.mem, h.len, by symm; exact decide_eq_false (by omega)⟩
theorem TI.keep {w w' : World} {neg : Bool} {a : Option Addr} {M : List Nat} {z : Int} {g : Nat} {k num : Int} {neg' : Bool} {s : ByteArray} {a1 a2 a3 : Option Addr} {n1 n2 n3 c1 c2 c3 : Nat} (h : TI w neg a M z)
    (ht : Tb w g #[.int .u8 k, .bool neg', .slice a1 n1 c1, .string s, .int .i64 num, .slice a2 n2 c2, .slice a3 n3 c3]) (hu : Upd [g] w w') : TI w' neg a M z := ⟨h.norm, h.mem.keep ht hu, h.len, h.sgn⟩
theorem Tb.sgn {w : World} {g : Nat} {k num : Int} {neg : Bool} {s : ByteArray} {v2 v5 v6 : Value} (h : Tb w g #[.int .u8 k, .bool neg, v2, .string s, .int .i64 num, v5, v6]) (v : Bool) :
    Tb (w.setCell ⟨g, 1, none⟩ (.bool v)) g #[.int .u8 k, .bool v, v2, .string s, .int .i64 num, v5, v6] := by
  have h7 := h.set 1 (.bool v)
  simp only [List.setIfInBounds_toArray, List.set_cons_zero, List.set_cons_succ] at h7
  exact h7
theorem upd_cell (w : World) (g i : Nat) (v : Value) : Upd [g] w (w.setCell ⟨g, i, none⟩ v) := (Upd.refl _ _).setCell (Or.inr (by simp)) _
theorem Len.ne {M : List Nat} {z : Int} (h : Norm M z.natAbs) (hz : z ≠ 0) : ((M.length : Int) == 0) = false := by
  have h1 : M ≠ [] := fun e => by have := h.nil_iff.1 e; omega
  have h2 : M.length ≠ 0 := fun e => h1 (List.eq_nil_of_length_eq_zero e)
  simp [h2]

/-- Two terms laid out newly, side by side. -/
structure Out (wz : World) (g h : Nat) (wx : World) (n1 n2 : Bool) (ax ay : Option Addr) (M N : List Nat) (cx cy : Nat) (zx zy : Int) : Prop where
  ne : g ≠ h
  hg : wz.heap.size ≤ g
  hh : wz.heap.size ≤ h
  tx : Tb wx g #[.int .u8 1, .bool n1, .slice ax M.length cx, .string ⟨#[]⟩, .int .i64 0, .slice none 0 0, .slice none 0 0]
  ty : Tb wx h #[.int .u8 1, .bool n2, .slice ay N.length cy, .string ⟨#[]⟩, .int .i64 0, .slice none 0 0, .slice none 0 0]
  ix : TI wx n1 ax M zx
  iy : TI wx n2 ay N zy
  upd : Upd [] wz wx

theorem Out.pick {wz wx : World} {n1 n2 : Bool} {ax ay : Option Addr} {M N : List Nat} {cx cy : Nat} {zx zy : Int} (g h : Nat) (o : Out wz g h wx n1 n2 ax ay M N cx cy zx zy) : Out wz g h wx n1 n2 ax ay M N cx cy zx zy := o

theorem Out.aa {wz v : World} {n1 n2 : Bool} {ax ay : Option Addr} {M N : List Nat} {cx cy : Nat} {zx zy : Int} (ix : TI v n1 ax M zx) (iy : TI v n2 ay N zy) (hU : Upd [] wz v) : Out wz v.heap.size (v.heap.size + 1) ((v.alloc (.cells #[.int .u8 1, .bool n1, .slice ax M.length cx, .string ⟨#[]⟩, .int .i64 0, .slice none 0 0, .slice none 0 0] 26)).alloc (.cells #[.int .u8 1, .bool n2, .slice ay N.length cy, .string ⟨#[]⟩, .int .i64 0, .slice none 0 0, .slice none 0 0] 26)) n1 n2 ax ay M N cx cy zx zy := by
  have u : Upd [] v ((v.alloc (.cells #[.int .u8 1, .bool n1, .slice ax M.length cx, .string ⟨#[]⟩, .int .i64 0, .slice none 0 0, .slice none 0 0] 26)).alloc (.cells #[.int .u8 1, .bool n2, .slice ay N.length cy, .string ⟨#[]⟩, .int .i64 0, .slice none 0 0, .slice none 0 0] 26)) := ((Upd.refl [] v).alloc _).alloc _
  exact ⟨by omega, hU.size, by have := hU.size; omega, (Tb.new _ _ _ rfl).old _, Tb.new _ _ _ (by simp), ix.mono u, iy.mono u, hU.trans u⟩
theorem Out.bb {wz v : World} {n1 n2 : Bool} {ax ay : Option Addr} {M N : List Nat} {cx cy : Nat} {zx zy : Int} (ix : TI v n1 ax M zx) (iy : TI v n2 ay N zy) (hU : Upd [] wz v) : Out wz (v.heap.size + 1) v.heap.size ((v.alloc (.cells #[.int .u8 1, .bool n2, .slice ay N.length cy, .string ⟨#[]⟩, .int .i64 0, .slice none 0 0, .slice none 0 0] 26)).alloc (.cells #[.int .u8 1, .bool n1, .slice ax M.length cx, .string ⟨#[]⟩, .int .i64 0, .slice none 0 0, .slice none 0 0] 26)) n1 n2 ax ay M N cx cy zx zy := by
  have u : Upd [] v ((v.alloc (.cells #[.int .u8 1, .bool n2, .slice ay N.length cy, .string ⟨#[]⟩, .int .i64 0, .slice none 0 0, .slice none 0 0] 26)).alloc (.cells #[.int .u8 1, .bool n1, .slice ax M.length cx, .string ⟨#[]⟩, .int .i64 0, .slice none 0 0, .slice none 0 0] 26)) := ((Upd.refl [] v).alloc _).alloc _
  exact ⟨by omega, by have := hU.size; omega, hU.size, Tb.new _ _ _ (by simp), (Tb.new _ _ _ rfl).old _, ix.mono u, iy.mono u, hU.trans u⟩
theorem Out.sa {wz v : World} {n1 n2 : Bool} {ax ay : Option Addr} {M N : List Nat} {cx cy : Nat} {zx zy : Int} {G : Nat} (t : Tb v G #[.int .u8 0, .bool false, .slice none 0 0, .string ⟨#[]⟩, .int .i64 0, .slice none 0 0, .slice none 0 0]) (hG : wz.heap.size ≤ G) (ix : TI v n1 ax M zx) (iy : TI v n2 ay N zy) (hU : Upd [] wz v) : Out wz G v.heap.size ((((((((v.setCell ⟨G, 0, none⟩ (.int .u8 1)).setCell ⟨G, 1, none⟩ (.bool n1)).setCell ⟨G, 2, none⟩ (.slice ax M.length cx)).setCell ⟨G, 3, none⟩ (.string ⟨#[]⟩)).setCell ⟨G, 4, none⟩ (.int .i64 0)).setCell ⟨G, 5, none⟩ (.slice none 0 0)).setCell ⟨G, 6, none⟩ (.slice none 0 0)).alloc (.cells #[.int .u8 1, .bool n2, .slice ay N.length cy, .string ⟨#[]⟩, .int .i64 0, .slice none 0 0, .slice none 0 0] 26)) n1 n2 ax ay M N cx cy zx zy := by
  have h7 := (seven t (.int .u8 1) (.bool n1) (.slice ax M.length cx) (.string ⟨#[]⟩) (.int .i64 0) (.slice none 0 0) (.slice none 0 0))
  have e := h7.2.size
  have l := t.lt
  have u := (Upd.refl [] (((((((v.setCell ⟨G, 0, none⟩ (.int .u8 1)).setCell ⟨G, 1, none⟩ (.bool n1)).setCell ⟨G, 2, none⟩ (.slice ax M.length cx)).setCell ⟨G, 3, none⟩ (.string ⟨#[]⟩)).setCell ⟨G, 4, none⟩ (.int .i64 0)).setCell ⟨G, 5, none⟩ (.slice none 0 0)).setCell ⟨G, 6, none⟩ (.slice none 0 0))).alloc (.cells #[.int .u8 1, .bool n2, .slice ay N.length cy, .string ⟨#[]⟩, .int .i64 0, .slice none 0 0, .slice none 0 0] 26)
  exact ⟨by omega, hG, hU.size, h7.1.old _, Tb.new _ _ _ (by simp [World.setCell]), (ix.keep t h7.2).mono u, (iy.keep t h7.2).mono u, (hU.then h7.2 (by simp; omega)).trans u⟩
theorem Out.as' {wz v : World} {n1 n2 : Bool} {ax ay : Option Addr} {M N : List Nat} {cx cy : Nat} {zx zy : Int} {G : Nat} (t : Tb v G #[.int .u8 0, .bool false, .slice none 0 0, .string ⟨#[]⟩, .int .i64 0, .slice none 0 0, .slice none 0 0]) (hG : wz.heap.size ≤ G) (ix : TI v n1 ax M zx) (iy : TI v n2 ay N zy) (hU : Upd [] wz v) : Out wz v.heap.size G ((((((((v.setCell ⟨G, 0, none⟩ (.int .u8 1)).setCell ⟨G, 1, none⟩ (.bool n2)).setCell ⟨G, 2, none⟩ (.slice ay N.length cy)).setCell ⟨G, 3, none⟩ (.string ⟨#[]⟩)).setCell ⟨G, 4, none⟩ (.int .i64 0)).setCell ⟨G, 5, none⟩ (.slice none 0 0)).setCell ⟨G, 6, none⟩ (.slice none 0 0)).alloc (.cells #[.int .u8 1, .bool n1, .slice ax M.length cx, .string ⟨#[]⟩, .int .i64 0, .slice none 0 0, .slice none 0 0] 26)) n1 n2 ax ay M N cx cy zx zy := by
  have h7 := (seven t (.int .u8 1) (.bool n2) (.slice ay N.length cy) (.string ⟨#[]⟩) (.int .i64 0) (.slice none 0 0) (.slice none 0 0))
  have l := t.lt
  have u := (Upd.refl [] (((((((v.setCell ⟨G, 0, none⟩ (.int .u8 1)).setCell ⟨G, 1, none⟩ (.bool n2)).setCell ⟨G, 2, none⟩ (.slice ay N.length cy)).setCell ⟨G, 3, none⟩ (.string ⟨#[]⟩)).setCell ⟨G, 4, none⟩ (.int .i64 0)).setCell ⟨G, 5, none⟩ (.slice none 0 0)).setCell ⟨G, 6, none⟩ (.slice none 0 0))).alloc (.cells #[.int .u8 1, .bool n1, .slice ax M.length cx, .string ⟨#[]⟩, .int .i64 0, .slice none 0 0, .slice none 0 0] 26)
  exact ⟨by omega, hU.size, hG, Tb.new _ _ _ (by simp [World.setCell]), h7.1.old _, (ix.keep t h7.2).mono u, (iy.keep t h7.2).mono u, (hU.then h7.2 (by simp; omega)).trans u⟩
theorem Out.ss {wz v : World} {n1 n2 : Bool} {ax ay : Option Addr} {M N : List Nat} {cx cy : Nat} {zx zy : Int} {G H : Nat} (t : Tb v G #[.int .u8 0, .bool false, .slice none 0 0, .string ⟨#[]⟩, .int .i64 0, .slice none 0 0, .slice none 0 0]) (t2 : Tb v H #[.int .u8 0, .bool false, .slice none 0 0, .string ⟨#[]⟩, .int .i64 0, .slice none 0 0, .slice none 0 0]) (hGH : G ≠ H) (hG : wz.heap.size ≤ G) (hH : wz.heap.size ≤ H) (ix : TI v n1 ax M zx) (iy : TI v n2 ay N zy) (hU : Upd [] wz v) : Out wz G H ((((((((((((((v.setCell ⟨G, 0, none⟩ (.int .u8 1)).setCell ⟨G, 1, none⟩ (.bool n1)).setCell ⟨G, 2, none⟩ (.slice ax M.length cx)).setCell ⟨G, 3, none⟩ (.string ⟨#[]⟩)).setCell ⟨G, 4, none⟩ (.int .i64 0)).setCell ⟨G, 5, none⟩ (.slice none 0 0)).setCell ⟨G, 6, none⟩ (.slice none 0 0)).setCell ⟨H, 0, none⟩ (.int .u8 1)).setCell ⟨H, 1, none⟩ (.bool n2)).setCell ⟨H, 2, none⟩ (.slice ay N.length cy)).setCell ⟨H, 3, none⟩ (.string ⟨#[]⟩)).setCell ⟨H, 4, none⟩ (.int .i64 0)).setCell ⟨H, 5, none⟩ (.slice none 0 0)).setCell ⟨H, 6, none⟩ (.slice none 0 0)) n1 n2 ax ay M N cx cy zx zy := by
  have h7 := (seven t (.int .u8 1) (.bool n1) (.slice ax M.length cx) (.string ⟨#[]⟩) (.int .i64 0) (.slice none 0 0) (.slice none 0 0))
  have t3 := t2.mono h7.2 (by simp; omega)
  have h8 := (seven t3 (.int .u8 1) (.bool n2) (.slice ay N.length cy) (.string ⟨#[]⟩) (.int .i64 0) (.slice none 0 0) (.slice none 0 0))
  exact ⟨hGH, hG, hH, h7.1.mono h8.2 (by simp; omega), h8.1, (ix.keep t h7.2).keep t3 h8.2, (iy.keep t h7.2).keep t3 h8.2, (hU.then h7.2 (by simp; omega)).then h8.2 (by simp; omega)⟩

end Go.Proofs.YtpeganecbjefoaaDoor
