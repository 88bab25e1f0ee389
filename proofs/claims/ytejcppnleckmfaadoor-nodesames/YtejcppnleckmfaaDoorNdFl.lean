/- rightFields of package node, by its contract. -/
import Derived.Test.YtejcppnleckmfaaDoorNdZ
namespace Go.Proofs.YtejcppnleckmfaaDoor
open Go.RowKit

set_option maxHeartbeats 1000000 in
set_option maxRecDepth 100000 in
theorem fields_no (a : Option Addr) (n c : Nat) (k : Int) (s : ByteArray) (num pos : Int) (w : World) (h : ¬ 0 ≤ pos) : Calls Tryd.prog 44 #[.agg #[.int .u8 k, .string s, .int .i64 num, .int .i64 pos, .slice a n c]] w fun e w' => e = .returned (.bool false) ∧ Upd [] w w' := by
  have HU0 : Hid (Upd [] w (w.alloc (.cells #[.int .u8 k, .string s, .int .i64 num, .int .i64 pos, .slice a n c] 25))) := (Upd.refl [] w).alloc _
  have e0 : decide (0 ≤ pos) = false := decide_eq_false h
  go_enter Tryd.func44, Tryd.ntmps44
  go_wp2
  go_ret
  exact ⟨rfl, HU0.out⟩
set_option maxHeartbeats 1000000 in
set_option maxRecDepth 100000 in
theorem fields_walk (a : Option Addr) (n c : Nat) (k : Int) (s : ByteArray) (num pos : Int) (w : World) (h : 0 ≤ pos) (z1 z2 : Bool)
    (hT : ∀ W, Upd [] w W → Calls Tryd.prog 49 #[.agg #[.int .u8 k, .string s, .int .i64 num, .int .i64 pos, .slice a n c]] W fun e w' => e = .returned (.bool z1) ∧ Upd [] W w')
    (hN : ∀ W, Upd [] w W → Calls Tryd.prog 50 #[.agg #[.int .u8 k, .string s, .int .i64 num, .int .i64 pos, .slice a n c]] W fun e w' => e = .returned (.bool z2) ∧ Upd [] W w') :
    Calls Tryd.prog 44 #[.agg #[.int .u8 k, .string s, .int .i64 num, .int .i64 pos, .slice a n c]] w fun e w' => e = .returned (.bool (z1 && z2)) ∧ Upd [] w w' := by
  have HU0 : Hid (Upd [] w (w.alloc (.cells #[.int .u8 k, .string s, .int .i64 num, .int .i64 pos, .slice a n c] 25))) := (Upd.refl [] w).alloc _
  have tb0 : Tb (w.alloc (.cells #[.int .u8 k, .string s, .int .i64 num, .int .i64 pos, .slice a n c] 25)) w.heap.size #[.int .u8 k, .string s, .int .i64 num, .int .i64 pos, .slice a n c] := Tb.new _ _ _ rfl
  have HT : Hid (∀ W, Upd [] w W → Calls Tryd.prog 49 #[.agg #[.int .u8 k, .string s, .int .i64 num, .int .i64 pos, .slice a n c]] W fun e w' => e = .returned (.bool z1) ∧ Upd [] W w') := hT
  have HN : Hid (∀ W, Upd [] w W → Calls Tryd.prog 50 #[.agg #[.int .u8 k, .string s, .int .i64 num, .int .i64 pos, .slice a n c]] W fun e w' => e = .returned (.bool z2) ∧ Upd [] W w') := hN
  clear hT hN
  cases z1 with
  | false =>
    go_enter Tryd.func44, Tryd.ntmps44
    go_wp2_with (first | (refine load_G _ _ rfl _ _ rfl tb0 rfl rfl ?_) | fail)
    refine (HT.out _ HU0.out).mono ?_
    rintro e w1 ⟨rfl, hu⟩
    have HU1 : Hid (Upd [] w w1) := HU0.out.trans hu
    clear hu tb0
    go_wp2
    go_ret
    exact ⟨rfl, HU1.out⟩
  | true =>
    go_enter Tryd.func44, Tryd.ntmps44
    go_wp2_with (first | (refine load_G _ _ rfl _ _ rfl tb0 rfl rfl ?_) | fail)
    refine (HT.out _ HU0.out).mono ?_
    rintro e w1 ⟨rfl, hu⟩
    have HU1 : Hid (Upd [] w w1) := HU0.out.trans hu
    have tb1 := tb0.mono hu (by simp)
    clear hu tb0
    go_wp2_with (first | (refine load_G _ _ rfl _ _ rfl tb1 rfl rfl ?_) | fail)
    refine (HN.out _ HU1.out).mono ?_
    rintro e w2 ⟨rfl, hu⟩
    have HU2 : Hid (Upd [] w w2) := HU1.out.trans hu
    clear hu tb1
    go_wp2
    go_ret
    exact ⟨rfl, HU2.out⟩

/-- The document's fields of a node beside its kids. -/
def fldB : Nd → Bool
  | .mk k s num pos K => decide (0 ≤ pos) && (txB k s K.length && nmB (.mk k s num pos K))
theorem rightFields_in (d : Nat) (w : World) (cs : List Value) (t : Nd) (h : NIn w d cs t) (hs : nsz t ≤ 2199023255488) (hx : nxz t ≤ 140737488355328) (hok : nmOk t) (hO : Ops w) :
    Calls Tryd.prog 44 #[.agg cs.toArray] w fun e w' => e = .returned (.bool (fldB t)) ∧ Upd [] w w' := by
  obtain ⟨k, s, num, pos, K⟩ := t
  have hN := fun W hu => rightNum_in d W cs (.mk k s num pos K) (NIn.mono hu _ _ _ h) hs hok
  cases d with
  | zero => exact h.elim
  | succ d =>
    obtain ⟨a, c, rfl, hK, -⟩ := h
    simp only [nsz] at hs
    simp only [nxz] at hx
    have hl : K.length ≤ 2199023255488 := Nat.le_trans (nszs_len K) hs
    simp only [fldB]
    by_cases hp : 0 ≤ pos
    · rw [decide_eq_true hp, Bool.true_and]
      exact fields_walk a K.length c k s num pos w hp _ _ (fun W hu => rightText_any a K.length c k s num pos W (by omega) hl (hO.mono hu)) hN
    · rw [decide_eq_false hp, Bool.false_and]
      exact fields_no a K.length c k s num pos w hp

end Go.Proofs.YtejcppnleckmfaaDoor
