/- cmp.Compare, compareLimbs, by their contracts. -/
import Derived.Test.YtnpocmhaoaigfaaGreatDoorAddL
import Derived.Deep.RegionWith
import Derived.Deep.QuietTactic
import Derived.BigQuiet
namespace Go.Proofs.YtnpocmhaoaigfaaGreatDoor
open Go.RowKit

/-- -1, 0, 1. -/
def cmp3 (x y : Nat) : Int := if x < y then -1 else if y < x then 1 else 0
theorem cmp3_lt {x y : Nat} (h : x < y) : cmp3 x y = -1 := by unfold cmp3; rw [if_pos h]
theorem cmp3_gt {x y : Nat} (h : y < x) : cmp3 x y = 1 := by unfold cmp3; rw [if_neg (by omega), if_pos h]
theorem cmp3_eq (x : Nat) : cmp3 x x = 0 := by unfold cmp3; simp

set_option maxHeartbeats 400000 in
theorem cmpInt_any (x y : Nat) (w : World) :
    Calls Tryz.prog 41 #[.int .i64 (x : Nat), .int .i64 (y : Nat)] w fun e w' => e = .returned (.int .i64 (cmp3 x y)) ∧ w' = w := by
  rcases Nat.lt_trichotomy x y with h | h | h
  · rw [cmp3_lt h]
    go_enter Tryz.func41, Tryz.ntmps41
    go_wp2
    go_ret
    exact ⟨rfl, rfl⟩
  · subst h
    rw [cmp3_eq]
    go_enter Tryz.func41, Tryz.ntmps41
    go_wp2
    go_ret
    exact ⟨rfl, rfl⟩
  · rw [cmp3_gt h]
    go_enter Tryz.func41, Tryz.ntmps41
    go_wp2
    go_ret
    exact ⟨rfl, rfl⟩

set_option maxHeartbeats 400000 in
theorem cmpU32_any (x y : Nat) (w : World) :
    Calls Tryz.prog 98 #[.int .u32 (x : Nat), .int .u32 (y : Nat)] w fun e w' => e = .returned (.int .i64 (cmp3 x y)) ∧ w' = w := by
  rcases Nat.lt_trichotomy x y with h | h | h
  · rw [cmp3_lt h]
    go_enter Tryz.func98, Tryz.ntmps98
    go_wp2
    go_ret
    exact ⟨rfl, rfl⟩
  · subst h
    rw [cmp3_eq]
    go_enter Tryz.func98, Tryz.ntmps98
    go_wp2
    go_ret
    exact ⟨rfl, rfl⟩
  · rw [cmp3_gt h]
    go_enter Tryz.func98, Tryz.ntmps98
    go_wp2
    go_ret
    exact ⟨rfl, rfl⟩

theorem drop_eq_of (A B : List Nat) (i : Nat) (hA : i < A.length) (hB : i < B.length) (he : A.drop (i + 1) = B.drop (i + 1)) (hx : A.getD i 0 = B.getD i 0) : A.drop i = B.drop i := by
  rw [List.drop_eq_getElem_cons hA, List.drop_eq_getElem_cons hB, he]
  rw [List.getD_eq_getElem?_getD, List.getD_eq_getElem?_getD, List.getElem?_eq_getElem hA, List.getElem?_eq_getElem hB] at hx
  rw [show A[i] = B[i] from hx]

theorem cmp_top (A B : List Nat) (i x y : Nat) (hx : x = A.getD i 0) (hy : y = B.getD i 0) (dA : Dig A) (dB : Dig B) (hA : i < A.length) (hB : i < B.length) (he : A.drop (i + 1) = B.drop (i + 1)) (hne : ¬ x = y) : cmp3 x y = cmp3 (val A) (val B) := by
  subst hx hy
  rcases Nat.lt_or_gt_of_ne hne with h | h
  · rw [cmp3_lt h, cmp3_lt (val_lt_of dA i hA hB he h)]
  · rw [cmp3_gt h, cmp3_gt (val_lt_of dB i hB hA he.symm h)]

set_option maxHeartbeats 400000 in
theorem compareLimbs_len (a b : Option Addr) (ca cb n m : Nat) (w : World) (_hn : n ≤ 1000) (_hm : m ≤ 1000) (hne : n ≠ m) :
    Calls Tryz.prog 62 #[.slice a n ca, .slice b m cb] w fun e w' => e = .returned (.int .i64 (cmp3 n m)) ∧ Upd [] w w' := by
  go_enter Tryz.func62, Tryz.ntmps62
  go_wp2_with fail
  refine (cmpInt_any n m w).mono ?_
  rintro e w3 ⟨rfl, rfl⟩
  go_wp2
  go_ret
  exact ⟨rfl, Upd.refl _ _⟩

set_option maxHeartbeats 1000000 in
set_option maxRecDepth 100000 in
theorem compareLimbs_same (a b : Option Addr) (ca cb : Nat) (A B : List Nat) (w : World) (hA : A.length ≤ 1000) (hB : B.length = A.length) (HA : At w a A) (HB : At w b B) (dA : Dig A) (dB : Dig B) :
    Calls Tryz.prog 62 #[.slice a A.length ca, .slice b A.length cb] w fun e w' => e = .returned (.int .i64 (cmp3 (val A) (val B))) ∧ Upd [] w w' := by
  have HLB : Hid _ := hB
  clear hB
  go_enter Tryz.func62, Tryz.ntmps62
  go_wp2
  go_loopw [19] (fun i wr => ∃ k : Nat, k ≤ A.length ∧ i = .int .i64 k ∧ A.drop (A.length - k) = B.drop (A.length - k) ∧ Upd [] w wr) (fun i _ => A.length - (intOf i).toNat)
  case atStart => exact ⟨0, Nat.zero_le _, rfl, by rw [Nat.sub_zero, List.drop_of_length_le (Nat.le_refl _), List.drop_of_length_le (by rw [HLB.out]; exact Nat.le_refl _)], Upd.refl _ _⟩
  case round =>
    obtain ⟨k, hk1, rfl, hd, hU⟩ := hrel
    have HD : Hid _ := hd
    clear hd
    by_cases hk2 : k < A.length
    · have hlB := HLB.out
      rcases HA.mono hU with h | ⟨ba, oa, rfl, hlta, hca⟩
      · rw [h] at hk2; simp at hk2
      rcases HB.mono hU with h | ⟨bb, ob, rfl, hltb, hcb⟩
      · rw [h] at hlB; simp at hlB; omega
      have hcx := hca (A.length - 1 - k) (by omega)
      have hcy := hcb (A.length - 1 - k) (by omega)
      obtain ⟨x, hx⟩ : ∃ x, x = A.getD (A.length - 1 - k) 0 := ⟨_, rfl⟩
      obtain ⟨y, hy⟩ : ∃ y, y = B.getD (A.length - 1 - k) 0 := ⟨_, rfl⟩
      rw [← hx] at hcx
      rw [← hy] at hcy
      have HX : Hid _ := hx
      have HY : Hid _ := hy
      have HC : Hid (∀ W, Calls Tryz.prog 98 #[.int .u32 (x : Nat), .int .u32 (y : Nat)] W fun e w' => e = .returned (.int .i64 (cmp3 x y)) ∧ w' = W) := fun W => cmpU32_any x y W
      clear hx hy hca hcb hlB
      have hi1 : A.length - 1 - k + 1 = A.length - k := by omega
      have HI : Hid _ := hi1
      clear hi1
      by_cases hxy : x = y
      · subst hxy
        go_wp2
        go_region
        all_goals
          go_wp2
          go_roundw
          case rel =>
            refine ⟨k + 1, by omega, by go_num, ?_, hU.drew⟩
            rw [show A.length - (k + 1) = A.length - 1 - k by omega]
            exact drop_eq_of A B _ (by omega) (by rw [HLB.out]; omega) (by rw [HI.out]; exact HD.out) (by rw [← HX.out, ← HY.out])
          case measure => simp [intOf]; omega
      · go_wp2
        go_region
        all_goals go_wp2
        all_goals go_region_with (go_at_call 98; refine (HC.out _).mono ?_; rintro e w3 ⟨rfl, rfl⟩)
        all_goals go_wp2
        all_goals go_ret
        all_goals refine ⟨?_, hU.drew.drew⟩
        all_goals exact congrArg (fun z : Int => Ending.returned (.int .i64 z)) (cmp_top A B (A.length - 1 - k) x y HX.out HY.out dA dB (by omega) (by rw [HLB.out]; omega) (by rw [HI.out]; exact HD.out) hxy)
    · go_wp2
      go_ret
      refine ⟨?_, hU⟩
      have e : A = B := by
        have := HD.out
        rw [show A.length - k = 0 by omega] at this
        simpa using this
      rw [e, cmp3_eq]
      rfl

/-- compareLimbs: which is below. -/
theorem compareLimbs_any (a b : Option Addr) (ca cb x y : Nat) (A B : List Nat) (w : World) (hA : A.length ≤ 1000) (hB : B.length ≤ 1000) (HA : At w a A) (HB : At w b B) (nA : Norm A x) (nB : Norm B y) :
    Calls Tryz.prog 62 #[.slice a A.length ca, .slice b B.length cb] w fun e w' => e = .returned (.int .i64 (cmp3 x y)) ∧ Upd [] w w' := by
  by_cases hl : B.length = A.length
  · have h := nA.eq
    have h' := nB.eq
    subst h h'
    rw [hl]
    exact compareLimbs_same a b ca cb A B w hA hl HA HB nA.dig nB.dig
  · have e : cmp3 x y = cmp3 A.length B.length := by
      rcases Nat.lt_or_gt_of_ne hl with h | h
      · rw [cmp3_gt h, cmp3_gt (norm_lt_of_len nB nA h)]
      · rw [cmp3_lt h, cmp3_lt (norm_lt_of_len nA nB h)]
    rw [e]
    exact compareLimbs_len a b ca cb A.length B.length w hA hB (fun h => hl h.symm)

end Go.Proofs.YtnpocmhaoaigfaaGreatDoor
