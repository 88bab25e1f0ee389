/- SameTerm of the kit, of right integers. -/
import Derived.Test.YtplkcegdmlfhcaaDoorAddT
namespace Go.Proofs.YtplkcegdmlfhcaaDoor
open Go.RowKit

theorem take_eq_of (A B : List Nat) (k : Nat) (hA : k < A.length) (hB : k < B.length) (h : A.take k = B.take k) (he : A.getD k 0 = B.getD k 0) : A.take (k + 1) = B.take (k + 1) := by
  rw [List.getD_eq_getElem?_getD, List.getD_eq_getElem?_getD, List.getElem?_eq_getElem hA, List.getElem?_eq_getElem hB] at he
  rw [List.take_add_one, List.take_add_one, h, List.getElem?_eq_getElem hA, List.getElem?_eq_getElem hB]
  rw [show A[k] = B[k] from he]

set_option maxHeartbeats 2000000 in
set_option maxRecDepth 100000 in
/-- SameTerms, of no terms. -/
theorem SameTerms_nil (ai bi : Option Addr) (ci cb : Nat) (w : World) :
    Calls Tryd.prog 26 #[.slice ai 0 ci, .slice bi 0 cb] w fun e w' => e = .returned (.bool true) ∧ w' = w := by
  go_enter Tryd.func26, Tryd.ntmps26
  go_wp2
  refine wp_loop_rounds 1 ?_
  rw [rounds_succ]
  go_wp2
  go_ret
  exact ⟨rfl, rfl⟩

set_option maxHeartbeats 2000000 in
set_option maxRecDepth 100000 in
/-- SameLimbs: whether two rows are the same. -/
theorem SameLimbs_any (a b : Option Addr) (ca cb : Nat) (A B : List Nat) (w : World) (hA : A.length ≤ 35184372088800) (_hB : B.length ≤ 35184372088800) (HA : At w a A) (HB : At w b B) :
    Calls Tryd.prog 25 #[.slice a A.length ca, .slice b B.length cb] w fun e w' => e = .returned (.bool (decide (A = B))) ∧ Upd [] w w' := by
  by_cases hl : A.length = B.length
  · have HLB : Hid (B.length = A.length) := hl.symm
    rw [← hl]
    clear hl
    go_enter Tryd.func25, Tryd.ntmps25
    go_wp2
    go_loopw [5] (fun i wr => ∃ k : Nat, k ≤ A.length ∧ i = .int .i64 k ∧ A.take k = B.take k ∧ Upd [] w wr) (fun i _ => A.length - (intOf i).toNat)
    case atStart => exact ⟨0, Nat.zero_le _, rfl, by simp, Upd.refl _ _⟩
    case round =>
      obtain ⟨k, hk1, rfl, hd, hU⟩ := hrel
      have HD : Hid _ := hd
      clear hd
      by_cases hk2 : k < A.length
      · have hlB := HLB.out
        rcases HA.mono hU with h | ⟨ba, oa, rfl, hlta, hca⟩
        · rw [h] at hk2; simp at hk2
        rcases HB.mono hU with h | ⟨bb, ob, rfl, hltb, hcb⟩
        · rw [h] at hlB; simp at hlB; omega
        have hcx := hca k (by omega)
        have hcy := hcb k (by omega)
        obtain ⟨x, hx⟩ : ∃ x, x = A.getD k 0 := ⟨_, rfl⟩
        obtain ⟨y, hy⟩ : ∃ y, y = B.getD k 0 := ⟨_, rfl⟩
        rw [← hx] at hcx
        rw [← hy] at hcy
        have HX : Hid _ := hx
        have HY : Hid _ := hy
        clear hx hy hca hcb hlB
        by_cases hxy : x = y
        · subst hxy
          go_wp2
          go_region
          all_goals
            go_wp2
            go_roundw
            case rel =>
              refine ⟨k + 1, by omega, by go_num, ?_, hU.drew⟩
              exact take_eq_of A B k (by omega) (by rw [HLB.out]; omega) HD.out (by rw [← HX.out, ← HY.out])
            case measure => simp [intOf]; omega
        · have hne : ((x : Int) == (y : Int)) = false := by simp; omega
          go_wp2
          go_region
          all_goals go_wp2
          all_goals go_ret
          all_goals exact ⟨by rw [decide_eq_false (fun e => hxy (by rw [HX.out, HY.out, e]))]; rfl, hU.drew⟩
      · go_wp2
        go_ret
        refine ⟨?_, hU⟩
        have e : A = B := by
          have := HD.out
          rwa [List.take_of_length_le (by omega), List.take_of_length_le (by rw [HLB.out]; omega)] at this
        rw [decide_eq_true e]; rfl
  · have h1 : ((A.length : Int) == (B.length : Int)) = false := by simp; omega
    have h2 : decide (A = B) = false := decide_eq_false (fun e => hl (by rw [e]))
    rw [h2]
    go_enter Tryd.func25, Tryd.ntmps25
    go_wp2
    go_ret
    exact ⟨rfl, Upd.refl _ _⟩

theorem SameLimbs_same (a b : Option Addr) (ca cb : Nat) (A : List Nat) (w : World) (hA : A.length ≤ 35184372088800) (HA : At w a A) (HB : At w b A) :
    Calls Tryd.prog 25 #[.slice a A.length ca, .slice b A.length cb] w fun e w' => e = .returned (.bool true) ∧ Upd [] w w' := by
  refine (SameLimbs_any a b ca cb A A w hA hA HA HB).mono ?_
  rintro e w' ⟨rfl, h⟩
  exact ⟨by rw [decide_eq_true rfl], h⟩

set_option maxHeartbeats 2000000 in
set_option maxRecDepth 100000 in
/-- SameTerm, of two terms that are the same and have no terms inside. -/
theorem SameTerm_same (k : Int) (neg : Bool) (a ai at' b bi bt : Option Addr) (ca ci ct cb cbi cbt : Nat) (A : List Nat) (w : World) (hA : A.length ≤ 35184372088800) (HA : At w a A) (HB : At w b A) :
    Calls Tryd.prog 11 #[.agg #[.int .u8 k, .bool neg, .slice a A.length ca, .string ⟨#[]⟩, .int .i64 0, .slice ai 0 ci, .slice at' 0 ct], .agg #[.int .u8 k, .bool neg, .slice b A.length cb, .string ⟨#[]⟩, .int .i64 0, .slice bi 0 cbi, .slice bt 0 cbt]] w fun e w' => e = .returned (.bool true) ∧ Upd [] w w' := by
  have hS : Hid (∀ W, Upd [] w W → _) := fun W hu => SameLimbs_same a b ca cb A W hA (HA.mono hu) (HB.mono hu)
  clear HA HB
  go_enter Tryd.func11, Tryd.ntmps11
  go_wp2_with fail
  have u0 := ((Upd.refl [] w).alloc (.cells #[.int .u8 k, .bool neg, .slice a A.length ca, .string ⟨#[]⟩, .int .i64 0, .slice ai 0 ci, .slice at' 0 ct] 26)).alloc (.cells #[.int .u8 k, .bool neg, .slice b A.length cb, .string ⟨#[]⟩, .int .i64 0, .slice bi 0 cbi, .slice bt 0 cbt] 26)
  have tx := (Tb.new w #[.int .u8 k, .bool neg, .slice a A.length ca, .string ⟨#[]⟩, .int .i64 0, .slice ai 0 ci, .slice at' 0 ct] _ rfl).old (.cells #[.int .u8 k, .bool neg, .slice b A.length cb, .string ⟨#[]⟩, .int .i64 0, .slice bi 0 cbi, .slice bt 0 cbt] 26)
  have ty := Tb.new (w.alloc (.cells #[.int .u8 k, .bool neg, .slice a A.length ca, .string ⟨#[]⟩, .int .i64 0, .slice ai 0 ci, .slice at' 0 ct] 26)) #[.int .u8 k, .bool neg, .slice b A.length cb, .string ⟨#[]⟩, .int .i64 0, .slice bi 0 cbi, .slice bt 0 cbt] (w.heap.size + 1) (by simp)
  refine (hS.out _ u0).mono ?_
  rintro e w1 ⟨rfl, hU1⟩
  have tx1 := tx.mono hU1 (by simp)
  have ty1 := ty.mono hU1 (by simp)
  have u1 := u0.trans hU1
  have x3 := tx1.cell 3
  have x4 := tx1.cell 4
  have x5 := tx1.cell 5
  have x6 := tx1.cell 6
  have y3 := ty1.cell 3
  have y4 := ty1.cell 4
  have y5 := ty1.cell 5
  have y6 := ty1.cell 6
  have U1 : Hid (Upd [] w w1) := u1
  clear u0 tx ty tx1 ty1 hU1 hS u1
  go_wp2_with fail
  refine (SameTerms_nil ai bi ci cbi _).mono ?_
  rintro e w2 ⟨rfl, rfl⟩
  go_wp2_with fail
  refine (SameTerms_nil at' bt ct cbt _).mono ?_
  rintro e w3 ⟨rfl, rfl⟩
  go_wp2
  go_ret
  exact ⟨rfl, U1.out⟩

end Go.Proofs.YtplkcegdmlfhcaaDoor
