/- ClockNumbers, walked. -/
import Derived.Test.YtpemnficdhjkhaaCrX
import Derived.Test.YtpemnficdhjkhaaCrNm
namespace Go.Proofs.Ytpemnficdhjkhaa
open Go.RowKit Go.Maps

/-- The nine numbers. -/
def nine : List Int := [-9223372036854775808, -1, 0, 1, 1099511627775, 1099511627776, 1099511627777, 4611686018427387904, 9223372036854775807]
def nineV : Array Value := #[.int .i64 (-9223372036854775808), .int .i64 (-1), .int .i64 0, .int .i64 1, .int .i64 1099511627775, .int .i64 1099511627776, .int .i64 1099511627777, .int .i64 4611686018427387904, .int .i64 9223372036854775807]
theorem nine_at {i : Nat} (hi : i < 9) : nineV[i]? = some (.int .i64 (nine.getD i 0)) := by
  rcases (by omega : i = 0 ∨ i = 1 ∨ i = 2 ∨ i = 3 ∨ i = 4 ∨ i = 5 ∨ i = 6 ∨ i = 7 ∨ i = 8) with rfl | rfl | rfl | rfl | rfl | rfl | rfl | rfl | rfl <;> rfl
theorem nine_i64 (i : Nat) : I64 (nine.getD i 0) := by
  have h : ∀ k, k < 9 → -9223372036854775808 ≤ nine.getD k 0 ∧ nine.getD k 0 ≤ 9223372036854775807 := by decide
  by_cases hi : i < 9
  · exact i64_small (h i hi).1 (h i hi).2
  · have : nine.getD i 0 = 0 := by
      rw [List.getD_eq_getElem?_getD, List.getElem?_eq_none (by simp [nine]; omega)]
      rfl
    rw [this]
    exact i64_small (by omega) (by omega)
theorem steps_lit (W : World) (A B : Int) (hA : I64 A) (hB : I64 B) : Steps (W.alloc (.cells #[.int .i64 6, .int .i64 1, .int .i64 A, .int .i64 0, .int .i64 0, .int .i64 B, .int .i64 6, .int .i64 B, .int .i64 B, .int .i64 0, .int .i64 0, .int .i64 A, .int .i64 6, .int .i64 2, .int .i64 0, .int .i64 0, .int .i64 0, .int .i64 0, .int .i64 0, .int .i64 0, .int .i64 1, .int .i64 2, .int .i64 B, .int .i64 0] 31)) (some ⟨W.heap.size, 0, none⟩) 8 := by
  have hc : Cl (W.alloc (.cells #[.int .i64 6, .int .i64 1, .int .i64 A, .int .i64 0, .int .i64 0, .int .i64 B, .int .i64 6, .int .i64 B, .int .i64 B, .int .i64 0, .int .i64 0, .int .i64 A, .int .i64 6, .int .i64 2, .int .i64 0, .int .i64 0, .int .i64 0, .int .i64 0, .int .i64 0, .int .i64 0, .int .i64 1, .int .i64 2, .int .i64 B, .int .i64 0] 31)) W.heap.size #[.int .i64 6, .int .i64 1, .int .i64 A, .int .i64 0, .int .i64 0, .int .i64 B, .int .i64 6, .int .i64 B, .int .i64 B, .int .i64 0, .int .i64 0, .int .i64 A, .int .i64 6, .int .i64 2, .int .i64 0, .int .i64 0, .int .i64 0, .int .i64 0, .int .i64 0, .int .i64 0, .int .i64 1, .int .i64 2, .int .i64 B, .int .i64 0] 31 := Cl.new _ _ _ _ rfl
  have s : ∀ x : Int, 0 ≤ x → x ≤ 6 → I64 x := fun x h1 h2 => i64_small (by omega) (by omega)
  intro i hi
  rcases (by omega : i = 0 ∨ i = 1 ∨ i = 2 ∨ i = 3 ∨ i = 4 ∨ i = 5 ∨ i = 6 ∨ i = 7) with rfl | rfl | rfl | rfl | rfl | rfl | rfl | rfl
  · exact ⟨_, 0, 6, 1, A, rfl, hc.lt, hc.cell _, hc.cell _, hc.cell _, s _ (by omega) (by omega), s _ (by omega) (by omega), hA⟩
  · exact ⟨_, 0, 0, 0, B, rfl, hc.lt, hc.cell _, hc.cell _, hc.cell _, s _ (by omega) (by omega), s _ (by omega) (by omega), hB⟩
  · exact ⟨_, 0, 6, B, B, rfl, hc.lt, hc.cell _, hc.cell _, hc.cell _, s _ (by omega) (by omega), hB, hB⟩
  · exact ⟨_, 0, 0, 0, A, rfl, hc.lt, hc.cell _, hc.cell _, hc.cell _, s _ (by omega) (by omega), s _ (by omega) (by omega), hA⟩
  · exact ⟨_, 0, 6, 2, 0, rfl, hc.lt, hc.cell _, hc.cell _, hc.cell _, s _ (by omega) (by omega), s _ (by omega) (by omega), s _ (by omega) (by omega)⟩
  · exact ⟨_, 0, 0, 0, 0, rfl, hc.lt, hc.cell _, hc.cell _, hc.cell _, s _ (by omega) (by omega), s _ (by omega) (by omega), s _ (by omega) (by omega)⟩
  · exact ⟨_, 0, 0, 0, 1, rfl, hc.lt, hc.cell _, hc.cell _, hc.cell _, s _ (by omega) (by omega), s _ (by omega) (by omega), s _ (by omega) (by omega)⟩
  · exact ⟨_, 0, 2, B, 0, rfl, hc.lt, hc.cell _, hc.cell _, hc.cell _, s _ (by omega) (by omega), hB, s _ (by omega) (by omega)⟩

theorem ar_30 (W : World) : AR (W.alloc (.cells #[.int .i64 30] 3)) 0 (.slice (some ⟨W.heap.size, 0, none⟩) 1 1) [30] :=
  Or.inr ⟨W.heap.size, Or.inr ⟨W.heap.size, 0, 1, _, rfl, rfl, Cl.new _ _ _ _ rfl, by simp, Nat.le_refl _, by omega, fun j hj => by
    obtain rfl : j = 0 := by simpa using hj
    rfl⟩, Nat.zero_le _⟩
theorem AR.n39 {w : World} {B c : Nat} {p : Option Addr} (h : AR w B (.slice p 39 c) n39) : ∃ b off, p = some ⟨b, off, none⟩ ∧ ∀ k, k < 39 → w.cell? ⟨b, off + k, none⟩ = some (.int .i64 (n39.getD k 0)) := by
  obtain ⟨b, off, cap, e, _⟩ := h.cell (k := 0) (by rw [n39_len]; omega)
  simp only [Value.slice.injEq] at e
  refine ⟨b, off, e.1, fun k hk => ?_⟩
  obtain ⟨b2, off2, cap2, e2, h2⟩ := h.cell (k := k) (by rw [n39_len]; omega)
  simp only [Value.slice.injEq] at e2
  have := e.1.symm.trans e2.1
  simp only [Option.some.injEq, Addr.mk.injEq, and_true] at this
  obtain ⟨rfl, rfl⟩ := this
  exact h2

set_option maxHeartbeats 16000000 in
set_option maxRecDepth 100000 in
theorem Numbers_walk (w : World) : Calls Try.prog 4 #[] w fun e w' => e = .returned (.bool true) ∧ Upd [] w w' := by
  obtain ⟨W1, hW1⟩ : ∃ W1, W1 = w.alloc (.cells nineV 3) := ⟨_, rfl⟩
  obtain ⟨R, hR⟩ : ∃ R, R = w.heap.size := ⟨_, rfl⟩
  have hu1 : Upd [] w W1 := by rw [hW1]; exact (Upd.refl [] w).alloc _
  have hc1 : Cl W1 R nineV 3 := by rw [hW1, hR]; exact Cl.new _ _ _ _ rfl
  have HN : Hid (∀ W, Upd [] W1 W → ∀ k, k < 9 → W.cell? ⟨R, k, none⟩ = some (.int .i64 (nine.getD k 0))) := fun W hW k hk => by
    rw [(hc1.upd hW (by simp)).cell]
    exact nine_at hk
  have H1 : Hid (Upd [] w W1) := hu1
  have HW : Hid (W1 = w.alloc (.cells #[.int .i64 (-9223372036854775808), .int .i64 (-1), .int .i64 0, .int .i64 1, .int .i64 1099511627775, .int .i64 1099511627776, .int .i64 1099511627777, .int .i64 4611686018427387904, .int .i64 9223372036854775807] 3)) := hW1
  have HR : Hid (R = w.heap.size) := hR
  clear hW1 hR hu1 hc1
  go_enter Try.func4, Try.ntmps4
  go_wp2_with fail
  rw [← HW.out, ← HR.out]
  clear HW HR
  go_loopw [2, 3] (fun s2 _ wr => ∃ i : Nat, s2 = .int .i64 (i : Nat) ∧ i ≤ 9 ∧ Upd [] W1 wr) (fun s2 _ _ => 9 - (intOf s2).toNat)
  case atStart => exact ⟨0, rfl, Nat.zero_le _, Upd.refl _ _⟩
  case round =>
    obtain ⟨i, rfl, hi9, hu⟩ := hrel
    by_cases hil : i < 9
    · have i1 : (i : Int) < 9 := by omega
      have HJ : Hid (Upd [] W1 wr) := hu
      clear hu
      go_wp2_with fail
      go_loopw [3] (fun s3 wr => ∃ j : Nat, s3 = .int .i64 (j : Nat) ∧ j ≤ 9 ∧ Upd [] W1 wr) (fun s3 _ => 9 - (intOf s3).toNat)
      case atStart => exact ⟨0, rfl, Nat.zero_le _, HJ.out⟩
      case round =>
        obtain ⟨j, rfl, hj9, hu⟩ := hrel
        clear HJ
        have HJ : Hid (Upd [] W1 wr) := hu
        clear hu
        by_cases hjl : j < 9
        · have j1 : (j : Int) < 9 := by omega
          obtain ⟨A, hA⟩ : ∃ A, A = nine.getD i 0 := ⟨_, rfl⟩
          obtain ⟨B, hB⟩ : ∃ B, B = nine.getD j 0 := ⟨_, rfl⟩
          have HI : Hid (I64 A ∧ I64 B) := ⟨by rw [hA]; exact nine_i64 i, by rw [hB]; exact nine_i64 j⟩
          have hi : ∀ W, Upd [] wr W → W.cell? ⟨R, i, none⟩ = some (.int .i64 A) := fun W hW => by rw [hA]; exact HN.out W (HJ.out.trans hW) i hil
          have hj : ∀ W, Upd [] wr W → W.cell? ⟨R, j, none⟩ = some (.int .i64 B) := fun W hW => by rw [hB]; exact HN.out W (HJ.out.trans hW) j hjl
          clear hA hB
          go_upto_region 8 with fail
          refine wp_region_held_drew (S := fun W => Upd [] wr W) (by kernel_rfl) (Upd.refl [] wr).drew (fun hS => ?_)
          refine wpAnyH_take (i := 0) (v := .slice (some ⟨R, 0, none⟩) 9 9) rfl (by kernel_rfl) (by kernel_rfl) (by kernel_rfl) (fun _ _ _ h => h) (Or.inl ⟨by rfl, ?_⟩) hS ?_
          · intro W hW; go_simp
          refine wpAnyH_take (i := 1) (v := .int .i64 (i : Nat)) rfl (by kernel_rfl) (by kernel_rfl) (by kernel_rfl) (fun _ _ _ h => h) (Or.inl ⟨by rfl, ?_⟩) hS ?_
          · intro W hW; go_simp
          simp only [Act.put, List.getElem_toArray, List.getElem_cons_succ, List.getElem_cons_zero, List.setIfInBounds_toArray, List.set_cons_succ, List.set_cons_zero]
          refine wpAnyH_take (i := 2) (v := .pointer (some ⟨R, i, none⟩)) rfl (by kernel_rfl) (by kernel_rfl) (by kernel_rfl) (fun _ _ _ h => h) (Or.inl ⟨by rfl, ?_⟩) hS ?_
          · intro W hW; go_simp
          simp only [Act.put, List.getElem_toArray, List.getElem_cons_succ, List.getElem_cons_zero, List.setIfInBounds_toArray, List.set_cons_succ, List.set_cons_zero]
          refine wpAnyH_take (i := 3) (v := .int .i64 A) rfl (by kernel_rfl) (by kernel_rfl) (by kernel_rfl) (fun _ _ _ h => h) (Or.inl ⟨by rfl, ?_⟩) hS ?_
          · intro W hW; have e1 : W.cell? ⟨R, i, none⟩ = some (.int .i64 A) := hi W hW; go_simp
          simp only [Act.put, List.getElem_toArray, List.getElem_cons_succ, List.getElem_cons_zero, List.setIfInBounds_toArray, List.set_cons_succ, List.set_cons_zero]
          refine wpAnyH_take (i := 4) (v := .agg #[.int .i64 6, .int .i64 1, .int .i64 A]) rfl (by kernel_rfl) (by kernel_rfl) (by kernel_rfl) (fun _ _ _ h => h) (Or.inl ⟨by rfl, ?_⟩) hS ?_
          · intro W hW; go_simp
          refine wpAnyH_take (i := 5) (v := .slice (some ⟨R, 0, none⟩) 9 9) rfl (by kernel_rfl) (by kernel_rfl) (by kernel_rfl) (fun _ _ _ h => h) (Or.inl ⟨by rfl, ?_⟩) hS ?_
          · intro W hW; go_simp
          refine wpAnyH_take (i := 6) (v := .int .i64 (j : Nat)) rfl (by kernel_rfl) (by kernel_rfl) (by kernel_rfl) (fun _ _ _ h => h) (Or.inl ⟨by rfl, ?_⟩) hS ?_
          · intro W hW; go_simp
          simp only [Act.put, List.getElem_toArray, List.getElem_cons_succ, List.getElem_cons_zero, List.setIfInBounds_toArray, List.set_cons_succ, List.set_cons_zero]
          refine wpAnyH_take (i := 7) (v := .pointer (some ⟨R, j, none⟩)) rfl (by kernel_rfl) (by kernel_rfl) (by kernel_rfl) (fun _ _ _ h => h) (Or.inl ⟨by rfl, ?_⟩) hS ?_
          · intro W hW; go_simp
          simp only [Act.put, List.getElem_toArray, List.getElem_cons_succ, List.getElem_cons_zero, List.setIfInBounds_toArray, List.set_cons_succ, List.set_cons_zero]
          refine wpAnyH_take (i := 8) (v := .int .i64 B) rfl (by kernel_rfl) (by kernel_rfl) (by kernel_rfl) (fun _ _ _ h => h) (Or.inl ⟨by rfl, ?_⟩) hS ?_
          · intro W hW; have e1 : W.cell? ⟨R, j, none⟩ = some (.int .i64 B) := hj W hW; go_simp
          simp only [Act.put, List.getElem_toArray, List.getElem_cons_succ, List.getElem_cons_zero, List.setIfInBounds_toArray, List.set_cons_succ, List.set_cons_zero]
          refine wpAnyH_take (i := 9) (v := .agg #[.int .i64 0, .int .i64 0, .int .i64 B]) rfl (by kernel_rfl) (by kernel_rfl) (by kernel_rfl) (fun _ _ _ h => h) (Or.inl ⟨by rfl, ?_⟩) hS ?_
          · intro W hW; go_simp
          refine wpAnyH_take (i := 10) (v := .slice (some ⟨R, 0, none⟩) 9 9) rfl (by kernel_rfl) (by kernel_rfl) (by kernel_rfl) (fun _ _ _ h => h) (Or.inl ⟨by rfl, ?_⟩) hS ?_
          · intro W hW; go_simp
          refine wpAnyH_take (i := 11) (v := .int .i64 (j : Nat)) rfl (by kernel_rfl) (by kernel_rfl) (by kernel_rfl) (fun _ _ _ h => h) (Or.inl ⟨by rfl, ?_⟩) hS ?_
          · intro W hW; go_simp
          simp only [Act.put, List.getElem_toArray, List.getElem_cons_succ, List.getElem_cons_zero, List.setIfInBounds_toArray, List.set_cons_succ, List.set_cons_zero]
          refine wpAnyH_take (i := 12) (v := .pointer (some ⟨R, j, none⟩)) rfl (by kernel_rfl) (by kernel_rfl) (by kernel_rfl) (fun _ _ _ h => h) (Or.inl ⟨by rfl, ?_⟩) hS ?_
          · intro W hW; go_simp
          simp only [Act.put, List.getElem_toArray, List.getElem_cons_succ, List.getElem_cons_zero, List.setIfInBounds_toArray, List.set_cons_succ, List.set_cons_zero]
          refine wpAnyH_take (i := 13) (v := .int .i64 B) rfl (by kernel_rfl) (by kernel_rfl) (by kernel_rfl) (fun _ _ _ h => h) (Or.inl ⟨by rfl, ?_⟩) hS ?_
          · intro W hW; have e1 : W.cell? ⟨R, j, none⟩ = some (.int .i64 B) := hj W hW; go_simp
          simp only [Act.put, List.getElem_toArray, List.getElem_cons_succ, List.getElem_cons_zero, List.setIfInBounds_toArray, List.set_cons_succ, List.set_cons_zero]
          refine wpAnyH_take (i := 14) (v := .slice (some ⟨R, 0, none⟩) 9 9) rfl (by kernel_rfl) (by kernel_rfl) (by kernel_rfl) (fun _ _ _ h => h) (Or.inl ⟨by rfl, ?_⟩) hS ?_
          · intro W hW; go_simp
          refine wpAnyH_take (i := 15) (v := .int .i64 (j : Nat)) rfl (by kernel_rfl) (by kernel_rfl) (by kernel_rfl) (fun _ _ _ h => h) (Or.inl ⟨by rfl, ?_⟩) hS ?_
          · intro W hW; go_simp
          simp only [Act.put, List.getElem_toArray, List.getElem_cons_succ, List.getElem_cons_zero, List.setIfInBounds_toArray, List.set_cons_succ, List.set_cons_zero]
          refine wpAnyH_take (i := 16) (v := .pointer (some ⟨R, j, none⟩)) rfl (by kernel_rfl) (by kernel_rfl) (by kernel_rfl) (fun _ _ _ h => h) (Or.inl ⟨by rfl, ?_⟩) hS ?_
          · intro W hW; go_simp
          simp only [Act.put, List.getElem_toArray, List.getElem_cons_succ, List.getElem_cons_zero, List.setIfInBounds_toArray, List.set_cons_succ, List.set_cons_zero]
          refine wpAnyH_take (i := 17) (v := .int .i64 B) rfl (by kernel_rfl) (by kernel_rfl) (by kernel_rfl) (fun _ _ _ h => h) (Or.inl ⟨by rfl, ?_⟩) hS ?_
          · intro W hW; have e1 : W.cell? ⟨R, j, none⟩ = some (.int .i64 B) := hj W hW; go_simp
          simp only [Act.put, List.getElem_toArray, List.getElem_cons_succ, List.getElem_cons_zero, List.setIfInBounds_toArray, List.set_cons_succ, List.set_cons_zero]
          refine wpAnyH_take (i := 18) (v := .agg #[.int .i64 6, .int .i64 B, .int .i64 B]) rfl (by kernel_rfl) (by kernel_rfl) (by kernel_rfl) (fun _ _ _ h => h) (Or.inl ⟨by rfl, ?_⟩) hS ?_
          · intro W hW; go_simp
          refine wpAnyH_take (i := 19) (v := .slice (some ⟨R, 0, none⟩) 9 9) rfl (by kernel_rfl) (by kernel_rfl) (by kernel_rfl) (fun _ _ _ h => h) (Or.inl ⟨by rfl, ?_⟩) hS ?_
          · intro W hW; go_simp
          refine wpAnyH_take (i := 20) (v := .int .i64 (i : Nat)) rfl (by kernel_rfl) (by kernel_rfl) (by kernel_rfl) (fun _ _ _ h => h) (Or.inl ⟨by rfl, ?_⟩) hS ?_
          · intro W hW; go_simp
          simp only [Act.put, List.getElem_toArray, List.getElem_cons_succ, List.getElem_cons_zero, List.setIfInBounds_toArray, List.set_cons_succ, List.set_cons_zero]
          refine wpAnyH_take (i := 21) (v := .pointer (some ⟨R, i, none⟩)) rfl (by kernel_rfl) (by kernel_rfl) (by kernel_rfl) (fun _ _ _ h => h) (Or.inl ⟨by rfl, ?_⟩) hS ?_
          · intro W hW; go_simp
          simp only [Act.put, List.getElem_toArray, List.getElem_cons_succ, List.getElem_cons_zero, List.setIfInBounds_toArray, List.set_cons_succ, List.set_cons_zero]
          refine wpAnyH_take (i := 22) (v := .int .i64 A) rfl (by kernel_rfl) (by kernel_rfl) (by kernel_rfl) (fun _ _ _ h => h) (Or.inl ⟨by rfl, ?_⟩) hS ?_
          · intro W hW; have e1 : W.cell? ⟨R, i, none⟩ = some (.int .i64 A) := hi W hW; go_simp
          simp only [Act.put, List.getElem_toArray, List.getElem_cons_succ, List.getElem_cons_zero, List.setIfInBounds_toArray, List.set_cons_succ, List.set_cons_zero]
          refine wpAnyH_take (i := 23) (v := .agg #[.int .i64 0, .int .i64 0, .int .i64 A]) rfl (by kernel_rfl) (by kernel_rfl) (by kernel_rfl) (fun _ _ _ h => h) (Or.inl ⟨by rfl, ?_⟩) hS ?_
          · intro W hW; go_simp
          refine wpAnyH_take (i := 24) (v := .agg #[.int .i64 6, .int .i64 2, .int .i64 0]) rfl (by kernel_rfl) (by kernel_rfl) (by kernel_rfl) (fun _ _ _ h => h) (Or.inl ⟨by rfl, ?_⟩) hS ?_
          · intro W hW; go_simp
          refine wpAnyH_take (i := 25) (v := .agg #[.int .i64 0, .int .i64 0, .int .i64 0]) rfl (by kernel_rfl) (by kernel_rfl) (by kernel_rfl) (fun _ _ _ h => h) (Or.inl ⟨by rfl, ?_⟩) hS ?_
          · intro W hW; go_simp
          refine wpAnyH_take (i := 26) (v := .agg #[.int .i64 0, .int .i64 0, .int .i64 1]) rfl (by kernel_rfl) (by kernel_rfl) (by kernel_rfl) (fun _ _ _ h => h) (Or.inl ⟨by rfl, ?_⟩) hS ?_
          · intro W hW; go_simp
          refine wpAnyH_take (i := 27) (v := .slice (some ⟨R, 0, none⟩) 9 9) rfl (by kernel_rfl) (by kernel_rfl) (by kernel_rfl) (fun _ _ _ h => h) (Or.inl ⟨by rfl, ?_⟩) hS ?_
          · intro W hW; go_simp
          refine wpAnyH_take (i := 28) (v := .int .i64 (j : Nat)) rfl (by kernel_rfl) (by kernel_rfl) (by kernel_rfl) (fun _ _ _ h => h) (Or.inl ⟨by rfl, ?_⟩) hS ?_
          · intro W hW; go_simp
          simp only [Act.put, List.getElem_toArray, List.getElem_cons_succ, List.getElem_cons_zero, List.setIfInBounds_toArray, List.set_cons_succ, List.set_cons_zero]
          refine wpAnyH_take (i := 29) (v := .pointer (some ⟨R, j, none⟩)) rfl (by kernel_rfl) (by kernel_rfl) (by kernel_rfl) (fun _ _ _ h => h) (Or.inl ⟨by rfl, ?_⟩) hS ?_
          · intro W hW; go_simp
          simp only [Act.put, List.getElem_toArray, List.getElem_cons_succ, List.getElem_cons_zero, List.setIfInBounds_toArray, List.set_cons_succ, List.set_cons_zero]
          refine wpAnyH_take (i := 30) (v := .int .i64 B) rfl (by kernel_rfl) (by kernel_rfl) (by kernel_rfl) (fun _ _ _ h => h) (Or.inl ⟨by rfl, ?_⟩) hS ?_
          · intro W hW; have e1 : W.cell? ⟨R, j, none⟩ = some (.int .i64 B) := hj W hW; go_simp
          simp only [Act.put, List.getElem_toArray, List.getElem_cons_succ, List.getElem_cons_zero, List.setIfInBounds_toArray, List.set_cons_succ, List.set_cons_zero]
          refine wpAnyH_take (i := 31) (v := .agg #[.int .i64 2, .int .i64 B, .int .i64 0]) rfl (by kernel_rfl) (by kernel_rfl) (by kernel_rfl) (fun _ _ _ h => h) (Or.inl ⟨by rfl, ?_⟩) hS ?_
          · intro W hW; go_simp
          simp only [Act.put, List.getElem_toArray, List.getElem_cons_succ, List.getElem_cons_zero, List.setIfInBounds_toArray, List.set_cons_succ, List.set_cons_zero]
          refine wpAnyH_ready (rs := [32]) (by kernel_rfl) (by simp) (AllReadyH.cons rfl (fun K hK => ?_) AllReadyH.nil)
          go_simp
          have hS2 : Upd [] wr (wr.alloc (.cells #[.int .i64 6, .int .i64 1, .int .i64 A, .int .i64 0, .int .i64 0, .int .i64 B, .int .i64 6, .int .i64 B, .int .i64 B, .int .i64 0, .int .i64 0, .int .i64 A, .int .i64 6, .int .i64 2, .int .i64 0, .int .i64 0, .int .i64 0, .int .i64 0, .int .i64 0, .int .i64 0, .int .i64 1, .int .i64 2, .int .i64 B, .int .i64 0] 31)).drew := ((Upd.refl [] wr).alloc _).drew
          refine hK.out _ _ hS2 (fun _ => ?_)
          clear hK K hS
          have hS := hS2
          clear hS2
          refine wpAnyH_ready (rs := [33]) (by kernel_rfl) (by simp) (AllReadyH.cons rfl (fun K hK => ?_) AllReadyH.nil)
          go_simp
          refine Calls.mono (Lives_walk _ _ 8 8 (by omega) (by omega) (steps_lit wr A B HI.out.1 HI.out.2)) ?_
          rintro en w5 ⟨rfl, hU⟩
          have hS2 : Upd [] wr w5 := hS.trans hU
          refine hK.out _ _ hS2 (fun _ => ?_)
          clear hK K hS hU
          have hS : Upd [] wr w5 := hS2
          clear hS2
          refine wpAnyH_take (i := 34) (v := .bool false) rfl (by kernel_rfl) (by kernel_rfl) (by kernel_rfl) (fun _ _ _ h => h) (Or.inl ⟨by rfl, ?_⟩) hS ?_
          · intro W hW; go_simp
          simp only [Act.put, List.getElem_toArray, List.getElem_cons_succ, List.getElem_cons_zero, List.setIfInBounds_toArray, List.set_cons_succ, List.set_cons_zero]
          refine wpAnyH_done (by kernel_rfl) ?_ _
          have HE : Hid (Upd [] W1 w5) := HJ.out.trans hS
          clear hS hi hj
          go_wp2_with fail
          go_roundw
          case rel => exact ⟨j + 1, by go_num, hjl, HE.out⟩
          case measure => simp [intOf]; omega
        · have j1 : decide ((j : Int) < 9) = false := decide_eq_false (by omega)
          go_wp2_with fail
          go_roundw
          case rel => exact ⟨i + 1, by go_num, hil, HJ.out⟩
          case measure => simp [intOf]; omega
    · have i1 : decide ((i : Int) < 9) = false := decide_eq_false (by omega)
      have H2 : Hid (Upd [] w wr) := H1.out.trans hu
      clear hu HN H1
      go_wp2_with fail
      refine Calls.mono (own_new wr) ?_
      rintro e w2 ⟨c, P, rfl, o, hPl⟩
      have H3 : Hid (Own w w2 c 0 P 0 (nT 0)) := by
        show Own w w2 c 0 P 0 (nT 0)
        rw [nT_zero]
        exact ⟨o.ck, fun x hx => Nat.le_trans H2.out.size (o.own x hx), H2.out.trans o.up⟩
      clear o hPl H2 i1
      go_wp2_with fail
      go_loopw [5] (fun s5 wx => ∃ (k : Nat) (x : Int) (n : Nat) (P : Nat → Prop), s5 = .int .i64 x ∧ x = 40 - (k : Int) ∧ k ≤ 40 ∧ n ≤ k ∧ Own w wx c n P 0 (nT k)) (fun s5 _ => (intOf s5).toNat)
      case atStart => exact ⟨0, 40, 0, P, rfl, by omega, by omega, by omega, H3.out⟩
      case round =>
        obtain ⟨k, x, n, P, rfl, hx, hk, hn, o⟩ := hrel
        clear H3
        have HO : Hid (Own w wr c n P 0 (nT k)) := o
        have HX : Hid (x = 40 - (k : Int)) := hx
        clear o
        by_cases hkl : k < 40
        · have x0 : decide ((0 : Int) < x) = true := decide_eq_true (by omega)
          have hx40 : 0 < x ∧ x ≤ 40 := by omega
          have HI : Hid (I64 x) := i64_small (by omega) (by omega)
          clear hx
          go_wp2_with fail
          refine Calls.mono (own_set HO.out (by omega) HI.out (10 + x % 3)) ?_
          rintro e w4 ⟨he, P4, o4, _, _⟩
          rw [nT_setB k x HX.out rfl] at he
          subst he
          have H4 : Hid (Own w w4 c (n + 1) P4 0 (nT (k + 1))) := by
            have h := nT_setT k x HX.out hkl (a := 10 + x % 3) rfl
            rw [h] at o4
            exact o4
          clear o4 HO
          go_wp2_with fail
          refine Calls.mono (set_not H4.out.ck HI.out (nT_full k x HX.out hkl 1)) ?_
          rintro e w5 ⟨rfl, rfl⟩
          go_wp2_with fail
          go_roundw
          case rel => exact ⟨k + 1, x - 1, n + 1, P4, by go_num, by have := HX.out; omega, hkl, by omega, H4.out⟩
          case measure => simp [intOf]; omega
        · obtain rfl : k = 40 := by omega
          obtain rfl : x = 0 := by omega
          have hn40 : n ≤ 40 := hn
          clear hx HX hkl hk hn
          go_wp2_with fail
          refine Calls.mono (own_drop HO.out (by omega) (i64_small (by omega) (by omega))) ?_
          rintro e w3 ⟨he, P3, o3, _, _⟩
          rw [n30] at he
          subst he
          have H3 : Hid (Own w w3 c n P3 0 (at1 (nT 40) 30 none)) := o3
          clear o3 HO
          go_wp2_with fail
          refine Calls.mono (own_drop H3.out (by omega) (i64_small (by omega) (by omega))) ?_
          rintro e w4 ⟨he, P4, o4, _, _⟩
          rw [n30b] at he
          subst he
          have H4 : Hid (Own w w4 c n P4 0 (at1 (at1 (nT 40) 30 none) 30 none)) := o4
          clear o4 H3
          go_wp2_with fail
          refine Calls.mono (own_set H4.out (by omega) (i64_small (by omega) (by omega)) 0) ?_
          rintro e w5 ⟨he, P5, o5, _, _⟩
          rw [n30c] at he
          subst he
          have H5 : Hid (Own w w5 c (n + 1) P5 0 nU) := by
            rw [n30d] at o5
            exact o5
          clear o5 H4
          go_wp2_with fail
          refine Calls.mono (own_tick H5.out (by omega) (by omega) (by omega)) ?_
          rintro e w6 ⟨v6, ys, rfl, hA, hd, _, o6, _⟩
          obtain ⟨p6, c6, hv6⟩ := hA.form
          subst hv6
          obtain rfl := told9 hd
          rw [nU_tick] at o6
          have H6 : Hid (Own w w6 c (n + 1) P5 (0 + 9) nV ∧ AR w6 w5.heap.size (.slice p6 1 c6) [30]) := ⟨o6, hA⟩
          clear hA hd o6
          go_wp2_with fail
          refine Calls.mono (own_tick H6.out.1 (by omega) (by omega) (by omega)) ?_
          rintro e w7 ⟨v7, zs, rfl, hA, hd, _, o7, hu7⟩
          obtain ⟨p7, c7, hv7⟩ := hA.form
          subst hv7
          obtain rfl := told12 hd
          rw [n39_len] at hA ⊢
          have H7 : Hid (Own w w7 c (n + 1) P5 (0 + 9 + 3) (tickT nV (0 + 9 + 3)) ∧ AR w7 w5.heap.size (.slice p6 1 c6) [30] ∧ AR w7 w6.heap.size (.slice p7 39 c7) n39) := ⟨o7, H5.out.told H6.out.2 hu7, hA⟩
          obtain ⟨b7, off7, rfl, _⟩ := hA.n39
          clear hA hd o7 hu7 H6 H5
          go_wp2_with fail
          refine Calls.mono (sameInts_any _ _ 0 _ _ [30] [30] (H7.out.2.1.upd ((Upd.refl [] w7).alloc _)) (ar_30 w7)) ?_
          rintro e w8 ⟨he, hu8⟩
          rw [show (([30] : List Int) == [30]) = true by decide] at he
          subst he
          have hu8 : Upd [] w7 w8 := ((Upd.refl [] w7).alloc _).trans hu8
          have H8 : Hid (Own w w8 c (n + 1) P5 (0 + 9 + 3) (tickT nV (0 + 9 + 3))) := H7.out.1.upd hu8
          obtain ⟨_, _, hp, hcl⟩ := (H7.out.2.2.upd hu8).n39
          simp only [Option.some.injEq, Addr.mk.injEq, and_true] at hp
          obtain ⟨rfl, rfl⟩ := hp
          have q0 : w8.cell? ⟨b7, off7, none⟩ = some (.int .i64 3) := hcl 0 (by omega)
          have q1 : w8.cell? ⟨b7, off7 + 12, none⟩ = some (.int .i64 1) := hcl 12 (by omega)
          have q2 : w8.cell? ⟨b7, off7 + 38, none⟩ = some (.int .i64 38) := hcl 38 (by omega)
          clear hcl hu8 H7
          go_wp2_with fail
          refine Calls.mono (own_tick H8.out (by omega) (by omega) (by omega)) ?_
          rintro e w9 ⟨v9, us, rfl, hA, hd, _, o9, _⟩
          obtain ⟨p9, c9, hv9⟩ := hA.form
          subst hv9
          have H9 : Hid (Own w w9 c (n + 1) P5 1099511627776 (tickT (tickT nV (0 + 9 + 3)) 1099511627776)) := o9
          clear hA hd o9 q0 q1 q2 H8
          go_wp2_with fail
          refine Calls.mono (tick_not H9.out.ck (by omega)) ?_
          rintro e wA ⟨rfl, hu⟩
          have HA : Hid (Own w wA c (n + 1) P5 1099511627776 (tickT (tickT nV (0 + 9 + 3)) 1099511627776)) := H9.out.upd hu
          clear hu H9
          go_wp2_with fail
          refine Calls.mono (own_set HA.out (by omega) (i64_small (by omega) (by omega)) 1099511627776) ?_
          rintro e wB ⟨he, PB, oB, _, _⟩
          rw [n1_set] at he
          subst he
          obtain ⟨TB, hTB⟩ : ∃ TB, TB = setT (tickT (tickT nV (0 + 9 + 3)) 1099511627776) 1099511627776 1 1099511627776 := ⟨_, rfl⟩
          rw [← hTB] at oB
          have HB : Hid (Own w wB c (n + 1 + 1) PB 1099511627776 TB) := oB
          clear oB HA hTB
          go_wp2_with fail
          refine Calls.mono (now_any HB.out.ck) ?_
          rintro e wC ⟨rfl, hw⟩
          rw [hw]
          clear hw wC
          have HU : Hid (Upd [] w wB) := HB.out.up
          clear HB
          go_wp2_with fail
          refine Calls.mono (awake_any _) ?_
          rintro e wD ⟨rfl, hu⟩
          have HV : Hid (Upd [] w wD) := HU.out.trans hu
          clear hu HU
          go_wp2_with fail
          go_ret
          exact ⟨rfl, HV.out⟩

end Go.Proofs.Ytpemnficdhjkhaa
