/- The contracts of the smallest functions. -/
import Derived.Test.YtpjlhpopoacjdaaDoorBase
namespace Go.Proofs.YtpjlhpopoacjdaaDoor
open Go.RowKit

set_option maxHeartbeats 400000 in
theorem limbAt_in (b o n cap i : Nat) (x : Nat) (w : World) (hi : i < n) (_hn : n ≤ 100000) (hc : w.cell? ⟨b, o + i, none⟩ = some (.int .u32 (x : Nat))) :
    Calls Tryd.prog 43 #[.slice (some ⟨b, o, none⟩) n cap, .int .i64 i] w fun e w' => e = .returned (.int .u32 (x : Nat)) ∧ w' = w := by
  go_enter Tryd.func43, Tryd.ntmps43
  go_wp2
  go_ret
  exact ⟨rfl, rfl⟩

set_option maxHeartbeats 400000 in
theorem limbAt_out (a : Option Addr) (n cap i : Nat) (w : World) (hi : n ≤ i) :
    Calls Tryd.prog 43 #[.slice a n cap, .int .i64 i] w fun e w' => e = .returned (.int .u32 0) ∧ w' = w := by
  go_enter Tryd.func43, Tryd.ntmps43
  go_wp2
  go_ret
  exact ⟨rfl, rfl⟩

/-- limbAt: the limb at i, or 0. -/
theorem limbAt_any (a : Option Addr) (cap i : Nat) (L : List Nat) (w : World) (hn : L.length ≤ 100000) (hL : At w a L) :
    Calls Tryd.prog 43 #[.slice a L.length cap, .int .i64 i] w fun e w' => e = .returned (.int .u32 (L.getD i 0 : Nat)) ∧ w' = w := by
  by_cases hi : i < L.length
  · rcases hL with h | ⟨b, o, rfl, _, hc⟩
    · rw [h] at hi; simp at hi
    · exact limbAt_in b o L.length cap i _ w hi hn (hc i hi)
  · have e : L.getD i 0 = 0 := by rw [List.getD_eq_getElem?_getD, List.getElem?_eq_none (by omega)]; rfl
    rw [e]
    exact limbAt_out a L.length cap i w (by omega)

theorem mul_lt (a b : Nat) (ha : a < 4294967296) (hb : b < 4294967296) : a * b ≤ 18446744065119617025 := by
  have := Nat.mul_le_mul (show a ≤ 4294967295 by omega) (show b ≤ 4294967295 by omega); omega

theorem carry_wrap (x y c d : Nat) (hx : x < 4294967296) (hy : y < 4294967296) (hb : d < 4294967296) (hcc : c < 4294967296) :
    IntKind.u64.wrap ((c : Int) + IntKind.u64.wrap (IntKind.u64.wrap ((d : Int) * (x : Int)) + (y : Int))) = ((c + (d * x + y) : Nat) : Int) := by
  have h := mul_lt d x hb hx
  have e : (d : Int) * (x : Int) = ((d * x : Nat) : Int) := by simp
  rw [e]
  generalize d * x = p at *
  simp only [IntKind.wrap_u64]
  omega

set_option maxHeartbeats 400000 in
theorem carrying1_core (x y c d bk bb : Nat) (w : World) (hx : x < 4294967296) (hy : y < 4294967296) (hb : d < 4294967296) (hcc : c < 4294967296)
    (Hk : One w bk .u64 52 c) (Hb : One w bb .u32 53 d) :
    Calls Tryd.prog 83 #[.int .u32 (x : Nat), .int .u32 (y : Nat), .pointer (some ⟨bk, 0, none⟩), .pointer (some ⟨bb, 0, none⟩)] w fun e w' =>
      e = .returned (.int .u32 (((c + (d * x + y)) % 4294967296 : Nat))) ∧ One w' bk .u64 52 ((c + (d * x + y)) / 4294967296) ∧ Upd [bk] w w' := by
  have HH : Hid _ := Hk
  have hk := Hk.cell
  have hkf := Hk.free
  have hbb := Hb.cell
  have W := carry_wrap x y c d hx hy hb hcc
  have HW : Hid _ := W
  clear W Hk Hb
  go_enter Tryd.func83, Tryd.ntmps83
  go_wp2
  go_ret
  rw [HW.out, setCell_twice]
  exact ⟨by simp, One.set HH.out _, (Upd.refl _ _).setCell (Or.inr (by simp)) _⟩

theorem carry_lt (c x y d : Nat) (hc : c < 4294967296) (hx : x < 4294967296) (hy : y < 4294967296) (hd : d < 4294967296) : (c + (d * x + y)) / 4294967296 < 4294967296 := by
  have := mul_lt d x hd hx
  omega

/-- carrying's closure: the limb of d * x + y and the carry, which is kept. -/
theorem carrying1_any (x y c d bk bb : Nat) (w : World) (hx : x < 4294967296) (hy : y < 4294967296) (hb : d < 4294967296) (hcc : c < 4294967296)
    (Hk : One w bk .u64 52 c) (Hb : One w bb .u32 53 d) :
    Calls Tryd.prog 83 #[.int .u32 (x : Nat), .int .u32 (y : Nat), .pointer (some ⟨bk, 0, none⟩), .pointer (some ⟨bb, 0, none⟩)] w fun e w' =>
      ∃ low c' : Nat, e = .returned (.int .u32 (low : Nat)) ∧ low < 4294967296 ∧ c' < 4294967296 ∧ low + 4294967296 * c' = c + (d * x + y) ∧ One w' bk .u64 52 c' ∧ Upd [bk] w w' := by
  refine (carrying1_core x y c d bk bb w hx hy hb hcc Hk Hb).mono ?_
  rintro e w' ⟨rfl, h1, h2⟩
  exact ⟨_, _, rfl, Nat.mod_lt _ (by decide), carry_lt c x y d hcc hx hy hb, Nat.mod_add_div _ _, h1, h2⟩

set_option maxHeartbeats 400000 in
theorem carrying_any (D C : Int) (d c : Nat) (w : World) (hD : D = (d : Int)) (hC : C = (c : Int)) (hc : c < 4294967296) :
    Calls Tryd.prog 72 #[.int .u32 D, .int .u32 C] w fun e w' =>
      e = .returned (.func (.func 83) #[] #[.pointer (some ⟨w.heap.size + 1, 0, none⟩), .pointer (some ⟨w.heap.size, 0, none⟩)]) ∧
      One w' (w.heap.size + 1) .u64 52 c ∧ One w' w.heap.size .u32 53 d ∧ Upd [] w w' := by
  subst hD hC
  go_enter Tryd.func72, Tryd.ntmps72
  go_wp2
  go_ret
  exact ⟨rfl, heap_alloc2_new _ _ _, heap_alloc2_old _ _ _, ((Upd.refl _ _).alloc _).alloc _⟩

set_option maxHeartbeats 400000 in
theorem borrowing_any (w : World) :
    Calls Tryd.prog 80 #[] w fun e w' =>
      e = .returned (.func (.func 89) #[] #[.pointer (some ⟨w.heap.size, 0, none⟩)]) ∧
      One w' w.heap.size .u64 52 0 ∧ Upd [] w w' := by
  go_enter Tryd.func80, Tryd.ntmps80
  go_wp2
  go_ret
  exact ⟨rfl, heap_alloc_new _ _, (Upd.refl _ _).alloc _⟩

set_option maxHeartbeats 400000 in
theorem dividing_any (D : Int) (d : Nat) (w : World) (hD : D = (d : Int)) :
    Calls Tryd.prog 84 #[.int .u32 D] w fun e w' =>
      e = .returned (.func (.func 90) #[] #[.pointer (some ⟨w.heap.size + 1, 0, none⟩), .pointer (some ⟨w.heap.size, 0, none⟩)]) ∧
      One w' (w.heap.size + 1) .u64 52 0 ∧ One w' w.heap.size .u32 53 d ∧ Upd [] w w' := by
  subst hD
  go_enter Tryd.func84, Tryd.ntmps84
  go_wp2
  go_ret
  exact ⟨rfl, heap_alloc2_new _ _ _, heap_alloc2_old _ _ _, ((Upd.refl _ _).alloc _).alloc _⟩

/-- The limb and the borrow of x - y - c. -/
def bDig (x y c : Nat) : Nat := if x < y + c then x + 4294967296 - (y + c) else x - (y + c)
def bOut (x y c : Nat) : Nat := if x < y + c then 1 else 0
theorem bOut_le (x y c : Nat) : bOut x y c ≤ 1 := by unfold bOut; split <;> omega
theorem bDig_lt (x y c : Nat) (hx : x < 4294967296) (hy : y < 4294967296) (hc : c ≤ 1) : bDig x y c < 4294967296 := by unfold bDig; split <;> omega
theorem bDig_eq (x y c : Nat) (hy : y < 4294967296) (hc : c ≤ 1) : bDig x y c + (y + c) = x + 4294967296 * bOut x y c := by unfold bDig bOut; split <;> omega

theorem borrow_wrap1 (x y c : Nat) (hx : x < 4294967296) (hy : y < 4294967296) (hc : c ≤ 1) : IntKind.u64.wrap (IntKind.u64.wrap ((x : Int) - (y : Int)) - (c : Int)) % 4294967296 = (bDig x y c : Nat) := by
  unfold bDig; simp only [IntKind.wrap_u64]; split <;> omega
theorem borrow_wrap2 (x y c : Nat) (hx : x < 4294967296) (hy : y < 4294967296) (hc : c ≤ 1) : IntKind.u64.wrap (IntKind.u64.wrap ((x : Int) - (y : Int)) - (c : Int)) / 9223372036854775808 = (bOut x y c : Nat) := by
  unfold bOut; simp only [IntKind.wrap_u64]; split <;> omega

set_option maxHeartbeats 400000 in
theorem borrowing1_any (x y c bk : Nat) (w : World) (hx : x < 4294967296) (hy : y < 4294967296) (hcc : c ≤ 1) (Hk : One w bk .u64 52 c) :
    Calls Tryd.prog 89 #[.int .u32 (x : Nat), .int .u32 (y : Nat), .pointer (some ⟨bk, 0, none⟩)] w fun e w' =>
      e = .returned (.int .u32 (bDig x y c : Nat)) ∧ One w' bk .u64 52 (bOut x y c) ∧ Upd [bk] w w' := by
  have hk := Hk.cell
  have hkf := Hk.free
  have HH : Hid _ := Hk
  clear Hk
  go_enter Tryd.func89, Tryd.ntmps89
  go_wp2
  go_ret
  rw [borrow_wrap1 x y c hx hy hcc, borrow_wrap2 x y c hx hy hcc]
  exact ⟨rfl, One.set HH.out _, (Upd.refl _ _).setCell (Or.inr (by simp)) _⟩

theorem or_shift (c x : Nat) (hc : c < 4294967296) (hx : x < 4294967296) : bits BinOp.or IntKind.u64 ((c : Int) * 4294967296) (x : Int) = ((c * 4294967296 + x : Nat) : Int) := by
  have e : (c : Int) * 4294967296 = ((c * 4294967296 : Nat) : Int) := by simp
  rw [e, bits_or_u64_nat _ _ (by omega) (by omega)]
  have h := Nat.shiftLeft_add_eq_or_of_lt (i := 32) (b := x) (by omega) c
  rw [Nat.shiftLeft_eq] at h
  rw [show c * 4294967296 = c * 2 ^ 32 from rfl, h]

theorem quo_lt (x c d : Nat) (hx : x < 4294967296) (hcc : c < d) : (c * 4294967296 + x) / d < 4294967296 := by
  rw [Nat.div_lt_iff_lt_mul (by omega)]
  have : (c + 1) * 4294967296 ≤ d * 4294967296 := Nat.mul_le_mul_right _ (by omega)
  omega

end Go.Proofs.YtpjlhpopoacjdaaDoor
