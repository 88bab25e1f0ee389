/- Of. -/
import Derived.Test.YtnpocmhaoaigfaaGreatDoorDivT
namespace Go.Proofs.YtnpocmhaoaigfaaGreatDoor
open Go.RowKit

theorem two_limbs (S : Nat) (h : S < 18446744073709551616) : Dig [S % 4294967296, S / 4294967296] ∧ val [S % 4294967296, S / 4294967296] = S := by
  constructor
  · intro x hx
    simp only [List.mem_cons, List.not_mem_nil, or_false] at hx
    rcases hx with rfl | rfl <;> omega
  · simp only [val]; omega

theorem sg_decide_nat (S : Nat) : sg (decide ((S : Int) < 0)) S = (S : Int) := by
  have h : ¬ (S : Int) < 0 := by omega
  simp [sg, h]
theorem getnew2 (w : World) (o : Obj) (n : Nat) (h : n = w.heap.size) : (w.alloc o).heap[n]? = some o := by subst h; exact heap_alloc_new w o

set_option maxHeartbeats 1000000 in
set_option maxRecDepth 100000 in
theorem Of_core (n : Int) (S : Nat) (w : World) (hb : -9223372036854775808 ≤ n ∧ n ≤ 9223372036854775807) (hS : S < 18446744073709551616) (hneg : (n < 0 ∧ n = -(S : Int)) ∨ (0 ≤ n ∧ n = (S : Int))) :
    Calls Tryz.prog 29 #[.int .i64 n] w fun e w' => Upd [] w w' ∧ ∃ neg a c M, e = .returned (.agg #[.int .u8 1, .bool neg, .slice a M.length c, .string ⟨#[]⟩, .int .i64 0, .slice none 0 0, .slice none 0 0]) ∧ TI w' neg a M n := by
  rcases hneg with ⟨h1, rfl⟩ | ⟨h1, rfl⟩
  · have hw1 : IntKind.u64.wrap (-(S : Int)) = 18446744073709551616 - (S : Int) := by simp only [IntKind.wrap_u64]; omega
    have hw2 : IntKind.u64.wrap (-(18446744073709551616 - (S : Int))) = (S : Int) := by simp only [IntKind.wrap_u64]; omega
    have hpos : 0 < S := by omega
    go_enter Tryz.func29, Tryz.ntmps29
    go_wp2_with fail
    have hU0 := ((Upd.refl [] w).alloc (.cells #[.int .u8 0, .bool false, .slice none 0 0, .string ⟨#[]⟩, .int .i64 0, .slice none 0 0, .slice none 0 0] 26)).alloc (.cells #[.int .u32 ((S : Int) % 4294967296), .int .u32 ((S : Int) / 4294967296)] 61)
    have hT0 := (Tb.new w #[.int .u8 0, .bool false, .slice none 0 0, .string ⟨#[]⟩, .int .i64 0, .slice none 0 0, .slice none 0 0] _ rfl).old (.cells #[.int .u32 ((S : Int) % 4294967296), .int .u32 ((S : Int) / 4294967296)] 61)
    have hblk : Blk ((w.alloc (.cells #[.int .u8 0, .bool false, .slice none 0 0, .string ⟨#[]⟩, .int .i64 0, .slice none 0 0, .slice none 0 0] 26)).alloc (.cells #[.int .u32 ((S : Int) % 4294967296), .int .u32 ((S : Int) / 4294967296)] 61)) (w.heap.size + 1) [S % 4294967296, S / 4294967296] := by
      unfold Blk
      rw [getnew2 _ _ _ (by simp)]
      simp [u32s]
    obtain ⟨hd, hv⟩ := two_limbs S hS
    refine (trimmed_any (some ⟨w.heap.size + 1, 0, none⟩) 2 [S % 4294967296, S / 4294967296] _ (by simp) (by simp) (by omega) hblk.at hd).mono ?_
    rintro e w1 ⟨rfl, a', c', M, rfl, nM, hM, hl, _, _⟩
    rw [hv] at nM
    have hl2 : M.length ≤ 2 := hl
    clear hl hblk hd hv hw1 hw2
    go_wp2_with fail
    refine (signed_any a' M.length c' _ _ (by omega)).mono ?_
    rintro e w2 ⟨rfl, hU2⟩
    have hTI := TI_mk nM (hM.mono hU2) (by omega) (show sg true S = -(S : Int) from rfl)
    have hT2 := hT0.mono hU2 (by simp)
    have hU02 := hU0.trans hU2
    clear hU0 hT0 hU2
    obtain ⟨ng, hng⟩ : ∃ ng, ng = (true && decide (0 < M.length)) := ⟨_, rfl⟩
    rw [← hng] at hTI ⊢
    have HTI : Hid _ := hTI
    clear hTI hng
    go_wp2_with (refine store_V _ rfl _ _ rfl _ _ _ _ _ _ _ _ _ _ _ _ _ _ _ rfl rfl hT2 rfl ?_; intro w3 hT3 hU3)
    exact ret_T Tryz.results29 rfl _ _ rfl hT3 rfl ⟨hU02.then hU3 (by simp), ng, a', c', M, rfl, ⟨HTI.out.norm, HTI.out.mem.keep hT2 hU3, HTI.out.len, HTI.out.sgn⟩⟩
  · go_enter Tryz.func29, Tryz.ntmps29
    go_wp2_with fail
    have hU0 := ((Upd.refl [] w).alloc (.cells #[.int .u8 0, .bool false, .slice none 0 0, .string ⟨#[]⟩, .int .i64 0, .slice none 0 0, .slice none 0 0] 26)).alloc (.cells #[.int .u32 ((S : Int) % 4294967296), .int .u32 ((S : Int) / 4294967296)] 61)
    have hT0 := (Tb.new w #[.int .u8 0, .bool false, .slice none 0 0, .string ⟨#[]⟩, .int .i64 0, .slice none 0 0, .slice none 0 0] _ rfl).old (.cells #[.int .u32 ((S : Int) % 4294967296), .int .u32 ((S : Int) / 4294967296)] 61)
    have hblk : Blk ((w.alloc (.cells #[.int .u8 0, .bool false, .slice none 0 0, .string ⟨#[]⟩, .int .i64 0, .slice none 0 0, .slice none 0 0] 26)).alloc (.cells #[.int .u32 ((S : Int) % 4294967296), .int .u32 ((S : Int) / 4294967296)] 61)) (w.heap.size + 1) [S % 4294967296, S / 4294967296] := by
      unfold Blk
      rw [getnew2 _ _ _ (by simp)]
      simp [u32s]
    obtain ⟨hd, hv⟩ := two_limbs S hS
    refine (trimmed_any (some ⟨w.heap.size + 1, 0, none⟩) 2 [S % 4294967296, S / 4294967296] _ (by simp) (by simp) (by omega) hblk.at hd).mono ?_
    rintro e w1 ⟨rfl, a', c', M, rfl, nM, hM, hl, _, _⟩
    rw [hv] at nM
    have hl2 : M.length ≤ 2 := hl
    clear hl hblk hd hv 
    go_wp2_with fail
    refine (signed_any a' M.length c' _ _ (by omega)).mono ?_
    rintro e w2 ⟨rfl, hU2⟩
    have hTI := TI_mk nM (hM.mono hU2) (by omega) (sg_decide_nat S)
    have hT2 := hT0.mono hU2 (by simp)
    have hU02 := hU0.trans hU2
    clear hU0 hT0 hU2
    obtain ⟨ng, hng⟩ : ∃ ng, ng = (decide ((S : Int) < 0) && decide (0 < M.length)) := ⟨_, rfl⟩
    rw [← hng] at hTI ⊢
    have HTI : Hid _ := hTI
    clear hTI hng
    go_wp2_with (refine store_V _ rfl _ _ rfl _ _ _ _ _ _ _ _ _ _ _ _ _ _ _ rfl rfl hT2 rfl ?_; intro w3 hT3 hU3)
    exact ret_T Tryz.results29 rfl _ _ rfl hT3 rfl ⟨hU02.then hU3 (by simp), ng, a', c', M, rfl, ⟨HTI.out.norm, HTI.out.mem.keep hT2 hU3, HTI.out.len, HTI.out.sgn⟩⟩

/-- Of: the integer n. -/
theorem Of_any (n : Int) (w : World) (hb : -9223372036854775808 ≤ n ∧ n ≤ 9223372036854775807) :
    Calls Tryz.prog 29 #[.int .i64 n] w fun e w' => Upd [] w w' ∧ ∃ neg a c M, e = .returned (.agg #[.int .u8 1, .bool neg, .slice a M.length c, .string ⟨#[]⟩, .int .i64 0, .slice none 0 0, .slice none 0 0]) ∧ TI w' neg a M n :=
  Of_core n n.natAbs w hb (by omega) (by omega)

end Go.Proofs.YtnpocmhaoaigfaaGreatDoor
