/- sum and less of the reference, by their contracts. -/
import Derived.Test.YtabknipgbmdipaaGreatDoorJAO
namespace Go.Proofs.YtabknipgbmdipaaGreatDoor
open Go.RowKit

set_option maxHeartbeats 4000000 in
set_option maxRecDepth 100000 in
theorem less_core (a b : Option Addr) (ca cb : Nat) (A B : List Bool) (w : World) (hA : A.length ≤ 3000) (hBl : B.length ≤ A.length) (HA : BA w a A) (HB : BA w b B) (hle : nb B ≤ nb A) :
    Calls Tryz.prog 182 #[.slice a A.length ca, .slice b B.length cb] w fun e w' => Upd [] w w' ∧ ∃ a' c' M, e = .returned (.slice a' M.length c') ∧ NormB M (nb A - nb B) ∧ BA w' a' M ∧ Fresh w.heap.size a' ∧ M.length ≤ c' ∧ c' ≤ 9223372036854775807 ∧ M.length ≤ A.length := by
  obtain ⟨i0, hi, hz0, hz1, hz2⟩ := info_parts info_bool
  have HLE : Hid (nb B ≤ nb A) := hle
  clear hle
  go_enter Tryz.func182, Tryz.ntmps182
  go_wp2_with fail
  go_loopw [5, 6, 7] (fun v cy i wr => ∃ k : Nat, ∃ O : List Bool, ∃ c : Bool, k ≤ A.length ∧ i = .int .i64 k ∧ cy = .bool c ∧ OL wr w.heap.size v O ∧ O.length = k ∧ nb O + nb (B.take k) = nb (A.take k) + 2 ^ k * c.toNat ∧ Upd [] w wr) (fun _ _ i _ => A.length - (intOf i).toNat)
  case atStart => exact ⟨0, [], false, Nat.zero_le _, rfl, rfl, OL.nil _ _, rfl, by simp [nb], Upd.refl _ _⟩
  case round =>
    obtain ⟨k, O, c, hk, rfl, rfl, hO, hOl, hOv, hU⟩ := hrel
    have HOL : Hid (O.length = k) := hOl
    have HOV : Hid (nb O + nb (B.take k) = nb (A.take k) + 2 ^ k * c.toNat) := hOv
    clear hOl hOv
    by_cases hk2 : k < A.length
    · obtain ⟨x, hx⟩ : ∃ x, x = A.getD k false := ⟨_, rfl⟩
      obtain ⟨y, hy⟩ : ∃ y, y = B.getD k false := ⟨_, rfl⟩
      have HX : Hid (x = A.getD k false) := hx
      have HY : Hid (y = B.getD k false) := hy
      rcases HA.mono hU with h | ⟨ba, oa, rfl, hlta, hca⟩
      · rw [h] at hk2; simp at hk2
      have hcx := hca k hk2
      rw [← hx] at hcx
      clear hx hy hca
      have hsz := hU.size
      have HO : Hid _ := hO
      clear hO
      go_wp2_with fail
      go_region_with (go_at_call 194; refine (at_I b cb k _ y B _ ?_ HY.out ?_ ?_).mono ?_; (omega); (omega); (first | exact HB.mono hU | exact HB.mono hU.drew); rintro e w3 ⟨rfl, rfl⟩)
      all_goals
        have hown : wr.drew.ownsRow w.heap.size 4 1 _ O.length (O.map Value.bool) := OL.upd HO.out (Upd.drew (Upd.refl [] wr))
        have hlen : O.length ≤ 3001 := by rw [HOL.out]; omega
        cases x <;> cases y <;> cases c
        all_goals
          go_wp2_with (first | (at_builtin; refine wpList_append_own _ rfl _ _ 131 rfl w.heap.size 4 i0 (.bool false) 1 1 Tryz.underlying131 hi hz0 hz1 hz2 rfl (by decide) _ _ _ rfl (hown.alloc _) ⟨wr.drew.heap.size, 0, none⟩ 1 1 [.bool true] rfl rfl (cell_one_new _ _ _) (by intro u hu; simp at hu; subst hu; rfl) (by unfold maxLen; omega) (by omega) (by simp; omega) ?_; intro v' w2 hown' hgrow _) | (at_builtin; refine wpList_append_own _ rfl _ _ 131 rfl w.heap.size 4 i0 (.bool false) 1 1 Tryz.underlying131 hi hz0 hz1 hz2 rfl (by decide) _ _ _ rfl (hown.alloc _) ⟨wr.drew.heap.size, 0, none⟩ 1 1 [.bool false] rfl rfl (cell_one_new _ _ _) (by intro u hu; simp at hu; subst hu; rfl) (by unfold maxLen; omega) (by omega) (by simp; omega) ?_; intro v' w2 hown' hgrow _))
          go_roundw
          case rel =>
            exact ⟨k + 1, O ++ [_], _, by omega, by go_num, rfl, OL.snoc hown', by rw [List.length_append, HOL.out]; rfl, lessB_step O A B k _ _ _ HOL.out HOV.out (by rw [← HX.out, ← HY.out]; rfl), (hU.drew.alloc _).grown hgrow (fun k hk => Or.inl (World.ownsRow.lt HO.out k hk).1)⟩
          case measure => simp [intOf]; omega
    · have hk3 : k = A.length := by omega
      obtain ⟨a1, c1, rfl, hBA, hF, hc1, hc2⟩ := hO.there
      go_wp2_with fail
      refine (cut_any a1 c1 O wr (by rw [HOL.out]; omega) hc1 hc2 hBA).mono ?_
      rintro e w2 ⟨rfl, c2, M, rfl, nM, hM, hMl, hd1, hd2⟩
      go_wp2
      go_ret
      refine ⟨hU, a1, c2, M, rfl, ?_, hM, hF, hd1, hd2, by rw [HOL.out] at hMl; omega⟩
      have hv := HOV.out
      rw [hk3] at hv
      rw [← lessB_end O A B c (by rw [HOL.out, hk3]) hBl HLE.out hv]
      exact nM

/-- less: an amount less one that is not above it. -/
theorem rless_any (a b : Option Addr) (ca cb x y : Nat) (A B : List Bool) (w : World) (hA : A.length ≤ 3000) (HA : BA w a A) (HB : BA w b B) (nA : nb A = x) (nB : NormB B y) (hle : y ≤ x) :
    Calls Tryz.prog 182 #[.slice a A.length ca, .slice b B.length cb] w fun e w' => Upd [] w w' ∧ ∃ a' c' M, e = .returned (.slice a' M.length c') ∧ NormB M (x - y) ∧ BA w' a' M ∧ Fresh w.heap.size a' ∧ M.length ≤ c' ∧ c' ≤ 9223372036854775807 ∧ M.length ≤ A.length := by
  have h' := nB.eq
  subst nA h'
  refine less_core a b ca cb A B w hA ?_ HA HB hle
  exact (nB.len_le A.length).2 (Nat.lt_of_le_of_lt hle (nb_lt A))

end Go.Proofs.YtabknipgbmdipaaGreatDoor
