/- lint's refuse. -/
import Derived.Test.YtbajgfoaakehbaaDoorLtO
namespace Go.Proofs.YtbajgfoaakehbaaDoor
open Go.RowKit

set_option maxHeartbeats 1000000 in
set_option maxRecDepth 100000 in
theorem refuse_no (err : Int) (k num p : Int) (s : ByteArray) (a : Option Addr) (n c : Nat) (w : World) : Calls Tryd.prog 26 #[.bool false, .int .i64 err, .agg #[.int .u8 k, .string s, .int .i64 num, .int .i64 p, .slice a n c]] w fun e w' => (∃ u, e = .returned u) ∧ Upd [] w w' := by
  go_enter Tryd.func26, Tryd.ntmps26
  go_wp2_with fail
  exact bodyPost_end (results_none rfl _ _ _) rfl ⟨⟨_, rfl⟩, (Upd.refl [] w).alloc _⟩
set_option maxHeartbeats 1000000 in
set_option maxRecDepth 100000 in
theorem refuse_yes (err : Int) (k num p : Int) (s : ByteArray) (a : Option Addr) (n c : Nat) (w : World) : Calls Tryd.prog 26 #[.bool true, .int .i64 err, .agg #[.int .u8 k, .string s, .int .i64 num, .int .i64 p, .slice a n c]] w fun e w' => e = .panicked [{ v := .iface 33 (.agg #[.int .i64 err, .int .i64 p]), recovered := false }] ∧ Upd [] w w' := by
  go_enter Tryd.func26, Tryd.ntmps26
  go_wp2_with fail
  exact ⟨rfl, rfl, (Upd.refl [] w).alloc _⟩

set_option maxHeartbeats 4000000 in
set_option maxRecDepth 100000 in
theorem alike_one (b3 b4 : Nat) (a1 : Option Addr) (c1 : Nat) (w : World) (t4 : Tb w b4 #[.int .u8 20, .string ⟨#[]⟩, .int .i64 0, .int .i64 0, .slice (some ⟨b3, 0, none⟩) 3 3])
    (R3 : Array Value) (t3 : Tb w b3 R3) (h3 : R3[4]? = some (.slice a1 1 c1)) : Calls Tryd.prog 28 #[.slice (some ⟨b4, 0, none⟩) 1 1, .int .i64 1] w fun e w' => (∃ u, e = .returned u) ∧ Upd [] w w' := by
  go_enter Tryd.func28, Tryd.ntmps28
  go_wp2_with fail
  go_loopw [9] (fun i wr => ∃ k : Nat, k ≤ 1 ∧ i = .int .i64 k ∧ Upd [] w wr) (fun i _ => 1 - (intOf i).toNat)
  case atStart => exact ⟨0, Nat.zero_le _, rfl, Upd.refl [] w⟩
  case round =>
    obtain ⟨k, hk, rfl, hu⟩ := hrel
    by_cases hlt : k < 1
    · obtain rfl : k = 0 := by omega
      have T4 : Tb wr b4 #[.int .u8 20, .string ⟨#[]⟩, .int .i64 0, .int .i64 0, .slice (some ⟨b3, 0, none⟩) 3 3] := t4.mono hu (by simp)
      have T3 := t3.mono hu (by simp)
      have C3 : wr.cell? ⟨b3, 4, none⟩ = some (.slice a1 1 c1) := (T3.cell 4).trans h3
      have L3 := T3.lt
      have x0 : wr.cell? ⟨b4, 0, none⟩ = some (.int .u8 20) := T4.cell 0
      have x1 : wr.cell? ⟨b4, 1, none⟩ = some (.string ⟨#[]⟩) := T4.cell 1
      have x2 : wr.cell? ⟨b4, 2, none⟩ = some (.int .i64 0) := T4.cell 2
      have x3 : wr.cell? ⟨b4, 3, none⟩ = some (.int .i64 0) := T4.cell 3
      have x4 : wr.cell? ⟨b4, 4, none⟩ = some (.slice (some ⟨b3, 0, none⟩) 3 3) := T4.cell 4
      have tz : Tb (wr.alloc (.cells #[.int .u8 0, .string ⟨#[]⟩, .int .i64 0, .int .i64 0, .slice none 0 0] 29)) wr.heap.size #[.int .u8 0, .string ⟨#[]⟩, .int .i64 0, .int .i64 0, .slice none 0 0] := Tb.new _ _ _ rfl
      have HUZ : Hid (Upd [] wr (wr.alloc (.cells #[.int .u8 0, .string ⟨#[]⟩, .int .i64 0, .int .i64 0, .slice none 0 0] 29))) := (Upd.refl [] wr).alloc _
      have HU : Hid (Upd [] w wr) := hu
      have HC : Hid (wr.cell? ⟨b3, 4, none⟩ = some (.slice a1 1 c1)) := C3
      clear hu C3 t4 t3 T3 h3
      go_wp2_with (first
        | (refine store_T _ rfl _ _ rfl _ #[.int .u8 20, .string ⟨#[]⟩, .int .i64 0, .int .i64 0, .slice (some ⟨b3, 0, none⟩) 3 3] _ rfl rfl tz rfl rfl (by simp [Value.oneCell']) ?_; intro w1 t1 u1; have U1 : Hid (Upd [] wr w1) := HUZ.out.then u1 (by simp); have y4 : w1.cell? ⟨wr.heap.size, 4, none⟩ = some (.slice (some ⟨b3, 0, none⟩) 3 3) := t1.cell 4; have y5 : w1.cell? ⟨b3, 4, none⟩ = some (.slice a1 1 c1) := (U1.out.cell (p := ⟨b3, 4, none⟩) L3 (by simp)).trans HC.out)
        | (refine load_T _ rfl _ rfl _ _ rfl t1 rfl ?_)
        | fail)
      refine Calls.mono (refuse_no _ _ _ _ _ _ _ _ _) ?_
      rintro e w2 ⟨⟨v2, rfl⟩, u2⟩
      have t2 := t1.mono u2 (by simp)
      have U2 : Hid (Upd [] wr w2) := U1.out.trans u2
      clear u2 t1 u1 U1 y4 y5 tz x0 x1 x2 x3 x4 T4
      go_wp2_with (first
        | (refine load_T _ rfl _ rfl _ _ rfl t2 rfl ?_)
        | fail)
      refine Calls.mono (refuse_no _ _ _ _ _ _ _ _ _) ?_
      rintro e w3 ⟨⟨v3, rfl⟩, u3⟩
      have U3 : Hid (Upd [] w w3) := (HU.out.trans U2.out).trans u3
      clear u3 t2 U2
      go_wp2_with fail
      go_roundw
      case rel => exact ⟨1, by omega, by go_num, U3.out⟩
      case measure => simp [intOf]
    · obtain rfl : k = 1 := by omega
      go_wp2_with fail
      exact bodyPost_end (results_none rfl _ _ _) rfl ⟨⟨_, rfl⟩, hu⟩

end Go.Proofs.YtbajgfoaakehbaaDoor
