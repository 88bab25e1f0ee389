/- KeptLimbs of the kit, by its contract. -/
import Derived.Test.YtaoipmmeialpnaaGreatDoorJAS
import Derived.Deep.QuietTactic
import Derived.BigQuiet
namespace Go.Proofs.YtaoipmmeialpnaaGreatDoor
open Go.RowKit

theorem marks_get (i : Nat) (hi : i < 12) : marks.getD i 0 = 8000024 + i := by
  match i, hi with
  | 0, _ => rfl
  | 1, _ => rfl
  | 2, _ => rfl
  | 3, _ => rfl
  | 4, _ => rfl
  | 5, _ => rfl
  | 6, _ => rfl
  | 7, _ => rfl
  | 8, _ => rfl
  | 9, _ => rfl
  | 10, _ => rfl
  | 11, _ => rfl
  | n + 12, h => omega

set_option maxHeartbeats 4000000 in
set_option maxRecDepth 100000 in
theorem KeptLimbs_any (g cap : Nat) (a : Option Addr) (c : Nat) (L : List Nat) (w : World) (hL : L.length ≤ 35184372088700) (hc : L.length + 12 ≤ cap) (hc2 : cap ≤ 9223372036854775807) (HG : At w (some ⟨g, 0, none⟩) (L ++ marks)) (HL : At w a L) (hD : Dig L) :
    Calls Tryz.prog 54 #[.slice (some ⟨g, 0, none⟩) L.length cap, .slice a L.length c] w fun e w' => e = .returned (.bool true) ∧ Upd [] w w' := by
  have HML : Hid ((L ++ marks).length = L.length + 12) := by show (L ++ marks).length = L.length + 12; rw [List.length_append]; rfl
  go_enter Tryz.func54, Tryz.ntmps54
  go_wp2
  go_loopw [6] (fun i wr => ∃ k : Nat, k ≤ L.length + 12 ∧ i = .int .i64 k ∧ Upd [] w wr) (fun i _ => L.length + 12 - (intOf i).toNat)
  case atStart => exact ⟨0, Nat.zero_le _, rfl, Upd.refl _ _⟩
  case round =>
    obtain ⟨k, hk, rfl, hU⟩ := hrel
    by_cases hk2 : k < L.length + 12
    · rcases HG.mono hU with h | ⟨b, o, e, hlt, hcg⟩
      · have := HML.out; rw [h] at this; simp at this
      cases e
      have hx := hcg k (by rw [HML.out]; exact hk2)
      rw [Nat.zero_add] at hx
      by_cases hkL : k < L.length
      · rcases HL.mono hU with h | ⟨b2, o2, rfl, hlt2, hcl⟩
        · rw [h] at hkL; simp at hkL
        have hy := hcl k hkL
        have e : (L ++ marks).getD k 0 = L.getD k 0 := by rw [List.getD_eq_getElem?_getD, List.getD_eq_getElem?_getD, List.getElem?_append_left hkL]
        rw [e] at hx
        obtain ⟨x, hxx⟩ : ∃ x, x = L.getD k 0 := ⟨_, rfl⟩
        have hxl : x < 4294967296 := by rw [hxx]; exact hD.getD _
        rw [← hxx] at hx hy
        have d1 : decide ((k : Int) < (L.length : Int)) = true := by simp; omega
        have d2 : decide ((k : Int) ≥ (L.length : Int)) = false := by simp; omega
        clear hcg hcl e hxx
        have d3 : decide (L.length ≤ k) = false := by simp; omega
        have i1 : (k : Int) < (L.length : Int) := by omega
        have i2 : (k : Int) < ((L.length + 12 : Nat) : Int) := by omega
        have i3 : (k : Int) < (L.length : Int) + 12 := by omega
        go_wp2
        go_quiet (fail)
        go_wp2
        go_roundw
        case rel => exact ⟨k + 1, by omega, by go_num, hU.drewN _⟩
        case measure => simp [intOf]; omega
      · obtain ⟨j, hkj⟩ : ∃ j, k = L.length + j := ⟨k - L.length, by omega⟩
        have hj : j < 12 := by omega
        have e : (L ++ marks).getD k 0 = 8000024 + j := by
          rw [hkj, List.getD_eq_getElem?_getD, List.getElem?_append_right (by omega), Nat.add_sub_cancel_left, ← List.getD_eq_getElem?_getD]
          exact marks_get j hj
        rw [e] at hx
        have mk : (k : Int) - (L.length : Int) = (j : Int) := by omega
        have d1 : decide ((k : Int) < (L.length : Int)) = false := by simp; omega
        have d2 : decide (k < L.length) = false := by simp; omega
        have d3 : decide (L.length ≤ k) = true := by simp; omega
        have i2 : (k : Int) < ((L.length + 12 : Nat) : Int) := by omega
        have i3 : (k : Int) < (L.length : Int) + 12 := by omega
        have HKJ : Hid (k = L.length + j) := hkj
        clear hcg e hkj
        go_wp2
        go_quiet (first | (go_at_call 73; refine Calls.quiet_of_same (mark_any j _ hj)))
        go_wp2
        go_roundw
        case rel => exact ⟨k + 1, by omega, by go_num, hU.drewN _⟩
        case measure => simp [intOf]; omega
    · have hkk : k = L.length + 12 := by omega
      have dd : decide ((k : Int) < (L.length : Int) + 12) = false := by simp; omega
      go_wp2
      go_ret
      exact ⟨rfl, hU⟩

end Go.Proofs.YtaoipmmeialpnaaGreatDoor
