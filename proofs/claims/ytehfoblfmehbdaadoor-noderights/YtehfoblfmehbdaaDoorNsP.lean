/- The statements' makers, awake. -/
import Derived.Test.YtehfoblfmehbdaaDoorNsO
import Derived.Test.YtehfoblfmehbdaaDoorJAG
namespace Go.Proofs.YtehfoblfmehbdaaDoor
open Go.RowKit

set_option maxHeartbeats 1000000 in
set_option maxRecDepth 100000 in
theorem leaf_any (k : Int) (s : ByteArray) (w : World) : Calls Tryd.prog 20 #[.int .u8 k, .string s] w fun e w' => e = .returned (.agg #[.int .u8 k, .string s, .int .i64 0, .int .i64 0, .slice none 0 0]) ∧ Upd [] w w' := by
  go_enter Tryd.func20, Tryd.ntmps20
  go_wp2_with fail
  exact ret_T Tryd.results20 rfl _ _ rfl (Tb.new _ _ _ rfl) rfl ⟨rfl, (Upd.refl [] w).alloc _⟩
set_option maxHeartbeats 1000000 in
set_option maxRecDepth 100000 in
theorem lof_any (k : Int) (s : ByteArray) (a : Option Addr) (n c : Nat) (w : World) : Calls Tryd.prog 17 #[.int .u8 k, .string s, .slice a n c] w fun e w' => e = .returned (.agg #[.int .u8 k, .string s, .int .i64 0, .int .i64 0, .slice a n c]) ∧ Upd [] w w' := by
  go_enter Tryd.func17, Tryd.ntmps17
  go_wp2_with fail
  exact ret_T Tryd.results17 rfl _ _ rfl (Tb.new _ _ _ rfl) rfl ⟨rfl, (Upd.refl [] w).alloc _⟩
set_option maxHeartbeats 1000000 in
set_option maxRecDepth 100000 in
theorem one_any (w : World) : Calls Tryd.prog 18 #[] w fun e w' => e = .returned (.agg #[.int .u8 1, .string ⟨#[49]⟩, .int .i64 0, .int .i64 0, .slice none 0 0]) ∧ Upd [] w w' := by
  have tz := Tb.new w #[.int .u8 0, .string ⟨#[]⟩, .int .i64 0, .int .i64 0, .slice none 0 0] _ rfl
  have HU : Hid (Upd [] w (w.alloc (.cells #[.int .u8 0, .string ⟨#[]⟩, .int .i64 0, .int .i64 0, .slice none 0 0] 25))) := (Upd.refl [] w).alloc _
  go_enter Tryd.func18, Tryd.ntmps18
  go_wp2_with fail
  refine Calls.mono (leaf_any 1 ⟨#[49]⟩ _) ?_
  rintro e w1 ⟨rfl, hU⟩
  have t1 := tz.mono hU (by simp)
  go_wp2_with (first | (refine store_T _ rfl _ _ rfl _ #[.int .u8 1, .string ⟨#[49]⟩, .int .i64 0, .int .i64 0, .slice none 0 0] _ rfl rfl t1 rfl rfl (by simp [Value.oneCell']) ?_; intro w7 hT7 hU7) | fail)
  exact ret_T Tryd.results18 rfl _ _ rfl hT7 rfl ⟨rfl, (HU.out.trans hU).then hU7 (by simp)⟩
set_option maxHeartbeats 1000000 in
set_option maxRecDepth 100000 in
theorem x_any (w : World) : Calls Tryd.prog 19 #[] w fun e w' => e = .returned (.agg #[.int .u8 3, .string ⟨#[88]⟩, .int .i64 0, .int .i64 0, .slice none 0 0]) ∧ Upd [] w w' := by
  have tz := Tb.new w #[.int .u8 0, .string ⟨#[]⟩, .int .i64 0, .int .i64 0, .slice none 0 0] _ rfl
  have HU : Hid (Upd [] w (w.alloc (.cells #[.int .u8 0, .string ⟨#[]⟩, .int .i64 0, .int .i64 0, .slice none 0 0] 25))) := (Upd.refl [] w).alloc _
  go_enter Tryd.func19, Tryd.ntmps19
  go_wp2_with fail
  refine Calls.mono (leaf_any 3 ⟨#[88]⟩ _) ?_
  rintro e w1 ⟨rfl, hU⟩
  have t1 := tz.mono hU (by simp)
  go_wp2_with (first | (refine store_T _ rfl _ _ rfl _ #[.int .u8 3, .string ⟨#[88]⟩, .int .i64 0, .int .i64 0, .slice none 0 0] _ rfl rfl t1 rfl rfl (by simp [Value.oneCell']) ?_; intro w7 hT7 hU7) | fail)
  exact ret_T Tryd.results19 rfl _ _ rfl hT7 rfl ⟨rfl, (HU.out.trans hU).then hU7 (by simp)⟩
set_option maxHeartbeats 1000000 in
set_option maxRecDepth 100000 in
theorem body_any (w : World) : Calls Tryd.prog 21 #[.slice none 0 0] w fun e w' => e = .returned (.agg #[.int .u8 19, .string ⟨#[]⟩, .int .i64 0, .int .i64 0, .slice none 0 0]) ∧ Upd [] w w' := by
  have tz := Tb.new w #[.int .u8 0, .string ⟨#[]⟩, .int .i64 0, .int .i64 0, .slice none 0 0] _ rfl
  have HU : Hid (Upd [] w (w.alloc (.cells #[.int .u8 0, .string ⟨#[]⟩, .int .i64 0, .int .i64 0, .slice none 0 0] 25))) := (Upd.refl [] w).alloc _
  go_enter Tryd.func21, Tryd.ntmps21
  go_wp2_with fail
  refine Calls.mono (lof_any 19 ⟨#[]⟩ none 0 0 _) ?_
  rintro e w1 ⟨rfl, hU⟩
  have t1 := tz.mono hU (by simp)
  go_wp2_with (first | (refine store_T _ rfl _ _ rfl _ #[.int .u8 19, .string ⟨#[]⟩, .int .i64 0, .int .i64 0, .slice none 0 0] _ rfl rfl t1 rfl rfl (by simp [Value.oneCell']) ?_; intro w7 hT7 hU7) | fail)
  exact ret_T Tryd.results21 rfl _ _ rfl hT7 rfl ⟨rfl, (HU.out.trans hU).then hU7 (by simp)⟩

/-- Trees. -/
def fN : Nd := .mk 2 ⟨#[102]⟩ 0 0 []
def pairN : Nd := .mk 5 ⟨#[]⟩ 0 0 [oneN, xN]
def callN : Nd := .mk 9 ⟨#[]⟩ 0 0 [fN, xN]
def matN : Nd := .mk 8 ⟨#[]⟩ 0 0 [xN, oneN]
def minN : Nd := .mk 7 ⟨#[45]⟩ 0 0 [oneN]
def ccN : Nd := .mk 9 ⟨#[]⟩ 0 0 [callN, xN]
def bodN : Nd := .mk 19 ⟨#[]⟩ 0 0 []
def casN : Nd := .mk 12 ⟨#[]⟩ 0 0 [oneN]
def badN : Nd := .mk 3 ⟨#[120]⟩ 0 0 []
theorem r_pair : rgtB pairN = true := by decide +kernel
theorem p_pair : (itmB pairN && thru patB pairN) = true := by decide +kernel
theorem g_pair : (itmB pairN && thru grdB pairN) = true := by decide +kernel
theorem p_mat : (itmB matN && thru patB matN) = true := by decide +kernel
theorem g_mat : (itmB matN && thru grdB matN) = false := by decide +kernel
theorem g_call : (itmB callN && thru grdB callN) = true := by decide +kernel
theorem p_call : (itmB callN && thru patB callN) = false := by decide +kernel
theorem p_min : (itmB minN && thru patB minN) = true := by decide +kernel
theorem g_min : (itmB minN && thru grdB minN) = true := by decide +kernel
theorem r_cc : rgtB ccN = true := by decide +kernel
theorem g_cc : (itmB ccN && thru grdB ccN) = false := by decide +kernel
theorem r_bod : rgtB bodN = false := by decide +kernel
theorem r_cas : rgtB casN = false := by decide +kernel
theorem r_bad : rgtB badN = false := by decide +kernel

/-- A row of nodes in a block. -/
theorem row_in {W : World} {r d : Nat} {cells : Array Value} (h : W.heap[r]? = some (.cells cells 25 (0, 0))) (K : List Nd) (hk : ∀ i (hi : i < K.length), ∃ cs : List Value, cs.length = 5 ∧ (∀ j, j < 5 → cells[i * 5 + j]? = cs[j]?) ∧ NIn W d cs K[i]) : RowN (NIn W d) W (some ⟨r, 0, none⟩) K := by
  refine Or.inr ⟨r, 0, rfl, lt_of_block h, fun i hi => ?_⟩
  obtain ⟨cs, h1, h2, h3⟩ := hk i hi
  exact ⟨cs, h1, fun j hj => by rw [Nat.zero_add, cell_of_row _ _ _ _ _ _ h]; exact h2 j hj, h3⟩

end Go.Proofs.YtehfoblfmehbdaaDoor
