/- below, sum and less of the reference, by their contracts. -/
import Derived.Test.YtpeganecbjefoaaDoorBitG
import Derived.Deep.RegionWith
namespace Go.Proofs.YtpeganecbjefoaaDoor
open Go.RowKit

/-- at, where the number is spelt otherwise. -/
theorem at_I (a : Option Addr) (cap i : Nat) (I : Int) (x : Bool) (L : List Bool) (w : World) (hI : I = (i : Int)) (hx : x = L.getD i false) (hn : L.length ≤ 100000) (hL : BA w a L) :
    Calls Tryd.prog 69 #[.slice a L.length cap, .int .i64 I] w fun e w' => e = .returned (.bool x) ∧ w' = w := by
  subst hI hx
  exact at_any a cap i L w hn hL

set_option maxHeartbeats 1000000 in
set_option maxRecDepth 100000 in
theorem below_any (a b : Option Addr) (ca cb x y : Nat) (A B : List Bool) (w : World) (hA : A.length ≤ 3000) (hB : B.length ≤ 3000) (HA : BA w a A) (HB : BA w b B) (nA : nb A = x) (nB : nb B = y) :
    Calls Tryd.prog 41 #[.slice a A.length ca, .slice b B.length cb] w fun e w' => e = .returned (.bool (decide (x < y))) ∧ w' = w := by
  subst nA nB
  obtain ⟨m, hm⟩ : ∃ m, m = max A.length B.length := ⟨_, rfl⟩
  have HMM : Hid _ := hm
  have hm3 : m ≤ 3000 := by omega
  clear hm
  go_enter Tryd.func41, Tryd.ntmps41
  go_wp2
  all_goals
    go_loopw [5] (fun i wr => ∃ k : Nat, k ≤ m ∧ i = .int .i64 ((k : Int) - 1) ∧ nb (A.drop k) = nb (B.drop k) ∧ wr = w) (fun i _ => (intOf i + 1).toNat)
    case atStart =>
      refine ⟨m, Nat.le_refl _, by have := HMM.out; congr 1; omega, ?_, by simp⟩
      rw [List.drop_of_length_le (by rw [HMM.out]; omega), List.drop_of_length_le (by rw [HMM.out]; omega)]
    case round =>
      obtain ⟨k, hk, rfl, he, rfl⟩ := hrel
      have HE : Hid _ := he
      clear he
      by_cases hk0 : k = 0
      · subst hk0
        go_wp2
        go_ret
        exact ⟨by rw [below_end A B HE.out]; rfl, rfl⟩
      · obtain ⟨j, rfl⟩ : ∃ j, k = j + 1 := ⟨k - 1, by omega⟩
        obtain ⟨x, hx⟩ : ∃ x, x = A.getD j false := ⟨_, rfl⟩
        obtain ⟨y, hy⟩ : ∃ y, y = B.getD j false := ⟨_, rfl⟩
        have HX : Hid (x = A.getD j false) := hx
        have HY : Hid (y = B.getD j false) := hy
        clear hx hy
        go_wp2_with fail
        refine (at_I a ca j _ x A _ (by omega) HX.out (by omega) HA).mono ?_
        rintro e w2 ⟨rfl, rfl⟩
        go_wp2_with fail
        refine (at_I b cb j _ y B _ (by omega) HY.out (by omega) HB).mono ?_
        rintro e w2 ⟨rfl, rfl⟩
        by_cases hxy : x = y
        · subst hxy
          go_wp2
          go_roundw
          case rel =>
            exact ⟨j, by omega, by go_num, below_same A B j HE.out (by rw [← HX.out, ← HY.out]), by simp⟩
          case measure => simp [intOf]
        · have hne : (x == y) = false := by simp [hxy]
          go_wp2_with fail
          refine (at_I b cb j _ y B _ (by omega) HY.out (by omega) HB).mono ?_
          rintro e w2 ⟨rfl, rfl⟩
          go_wp2
          go_ret
          exact ⟨by rw [below_top A B j HE.out (by rw [← HX.out, ← HY.out]; exact hxy), ← HY.out]; rfl, rfl⟩

end Go.Proofs.YtpeganecbjefoaaDoor
