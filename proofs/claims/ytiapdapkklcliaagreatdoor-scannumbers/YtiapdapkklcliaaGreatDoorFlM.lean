/- The kit's marks, by their contracts. -/
import Derived.Test.YtiapdapkklcliaaGreatDoorFlB
import Derived.Test.YtiapdapkklcliaaGreatDoorRfC
namespace Go.Proofs.YtiapdapkklcliaaGreatDoor
open Go.RowKit

/-- A mark's number. -/
def mkN (k i : Int) : Int := wrap64 (wrap64 (1000003 * wrap64 (k + 7)) + i)
set_option maxHeartbeats 400000 in
theorem mark_any (k i : Int) (w : World) : Calls Tryz.prog 85 #[.int .i64 k, .int .i64 i] w fun e w' => e = .returned (.int .i64 (mkN k i)) ∧ w' = w := by
  have HM : Hid (mkN k i = wrap64 (wrap64 (1000003 * wrap64 (k + 7)) + i)) := rfl
  go_enter Tryz.func85, Tryz.ntmps85
  go_wp2
  go_ret
  rw [HM.out]
  exact ⟨rfl, rfl⟩
/-- A mark of a token. -/
def mkTok (k i : Nat) : List Value := [.int .u8 0, .string ⟨#[]⟩, .int .i64 (mkN k i)]
set_option maxHeartbeats 400000 in
theorem markToken_any (k i : Int) (w : World) : Calls Tryz.prog 91 #[.int .i64 k, .int .i64 i] w fun e w' => e = .returned (.agg #[.int .u8 0, .string ⟨#[]⟩, .int .i64 (mkN k i)]) ∧ Upd [] w w' := by
  obtain ⟨M, hM⟩ : ∃ M, M = mkN k i := ⟨_, rfl⟩
  have HM : Hid (∀ W, Calls Tryz.prog 85 #[.int .i64 k, .int .i64 i] W fun e w' => e = .returned (.int .i64 M) ∧ w' = W) := fun W => by rw [hM]; exact mark_any k i W
  rw [← hM]
  clear hM
  have hA := Blk.new w #[.int .u8 0, .string ⟨#[]⟩, .int .i64 0] 43
  go_enter Tryz.func91, Tryz.ntmps91
  go_wp2_with (first | (go_at_call 85; refine (HM.out _).mono ?_; rintro e w' ⟨rfl, rfl⟩) | (refine store_S _ rfl 43 _ _ rfl w.heap.size #[.int .u8 0, .string ⟨#[]⟩, .int .i64 M] _ rfl rfl hA info_tok3 rfl (by simp [Value.oneCell']) ?_; intro w5 hB5 hU5))
  exact ret_S Tryz.results91 rfl _ _ rfl hB5 Tryz.underlying43 info_tok3 ⟨rfl, ((Upd.refl [] w).alloc _).then hU5 (by simp)⟩

/-- A mark of a text. -/
def b8 (k : Int) : UInt8 := UInt8.ofNat (k % 256).toNat
theorem b8_int (k : Int) : ((b8 k).toNat : Int) = k % 256 := by
  unfold b8
  have h1 : 0 ≤ k % 256 := Int.emod_nonneg _ (by omega)
  have h2 : k % 256 < 256 := Int.emod_lt_of_pos _ (by omega)
  rw [UInt8.toNat_ofNat']
  omega
def txI (k i : Int) : ByteArray := str [35, b8 k, b8 (k / 256), b8 (k / 65536), 47, b8 i, b8 (i / 256), b8 (i / 65536)]
def mkTxC (k i : Nat) : List Value := [.string (txI k i)]
set_option maxHeartbeats 1000000 in
set_option maxRecDepth 100000 in
theorem markText_any (k i : Int) (w : World) : Calls Tryz.prog 86 #[.int .i64 k, .int .i64 i] w fun e w' => e = .returned (.string (txI k i)) ∧ Upd [] w w' := by
  have hcv : (convert 37 9 (.slice (some ⟨w.heap.size, 0, none⟩) 8 8)).run Tryz.prog (w.alloc (.cells #[.int .u8 35, .int .u8 (k % 256), .int .u8 (k / 256 % 256), .int .u8 (k / 65536 % 256), .int .u8 47, .int .u8 (i % 256), .int .u8 (i / 256 % 256), .int .u8 (i / 65536 % 256)] 5)) = .ok (.string (txI k i)) (w.alloc (.cells #[.int .u8 35, .int .u8 (k % 256), .int .u8 (k / 256 % 256), .int .u8 (k / 65536 % 256), .int .u8 47, .int .u8 (i % 256), .int .u8 (i / 256 % 256), .int .u8 (i / 65536 % 256)] 5)) := by
    refine run_convert_bytes_back (P := Tryz.prog) (w.alloc (.cells #[.int .u8 35, .int .u8 (k % 256), .int .u8 (k / 256 % 256), .int .u8 (k / 65536 % 256), .int .u8 47, .int .u8 (i % 256), .int .u8 (i / 256 % 256), .int .u8 (i / 65536 % 256)] 5)) 37 9 5 ⟨w.heap.size, 0, none⟩ 8 [35, b8 k, b8 (k / 256), b8 (k / 65536), 47, b8 i, b8 (i / 256), b8 (i / 65536)] Tryz.underlying37 Tryz.underlying5 Tryz.underlying9 (fun j hj => ?_)
    rw [Addr.add_lit, Nat.zero_add, Blk.cell (Blk.new w _ _)]
    have hj8 : j < 8 := hj
    obtain rfl | rfl | rfl | rfl | rfl | rfl | rfl | rfl : j = 0 ∨ j = 1 ∨ j = 2 ∨ j = 3 ∨ j = 4 ∨ j = 5 ∨ j = 6 ∨ j = 7 := by omega
    · rfl
    · show some (Value.int .u8 (k % 256)) = some (Value.int .u8 ((b8 k).toNat : Int)); rw [b8_int]
    · show some (Value.int .u8 (k / 256 % 256)) = some (Value.int .u8 ((b8 (k / 256)).toNat : Int)); rw [b8_int]
    · show some (Value.int .u8 (k / 65536 % 256)) = some (Value.int .u8 ((b8 (k / 65536)).toNat : Int)); rw [b8_int]
    · rfl
    · show some (Value.int .u8 (i % 256)) = some (Value.int .u8 ((b8 i).toNat : Int)); rw [b8_int]
    · show some (Value.int .u8 (i / 256 % 256)) = some (Value.int .u8 ((b8 (i / 256)).toNat : Int)); rw [b8_int]
    · show some (Value.int .u8 (i / 65536 % 256)) = some (Value.int .u8 ((b8 (i / 65536)).toNat : Int)); rw [b8_int]
  obtain ⟨T, hT⟩ : ∃ T, T = txI k i := ⟨_, rfl⟩
  rw [← hT] at hcv ⊢
  clear hT
  go_enter Tryz.func86, Tryz.ntmps86
  go_wp2
  go_ret
  exact ⟨rfl, (Upd.refl [] w).alloc _⟩

end Go.Proofs.YtiapdapkklcliaaGreatDoor
