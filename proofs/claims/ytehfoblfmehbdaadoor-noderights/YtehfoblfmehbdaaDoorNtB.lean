/- The reference's digits, variable, one, two. -/
import Derived.Test.YtehfoblfmehbdaaDoorJAC
import Derived.Test.YtehfoblfmehbdaaDoorJAI
namespace Go.Proofs.YtehfoblfmehbdaaDoor
open Go.RowKit

set_option maxHeartbeats 1000000 in
set_option maxRecDepth 100000 in
theorem rdigits (s : ByteArray) (w : World) (hs : s.size ≤ 9223372036854775807) : Calls Tryd.prog 46 #[.string s] w fun e w' => e = .returned (.bool (numS s)) ∧ w' = w := by
  obtain ⟨R, hR⟩ : ∃ R, R = numS s := ⟨_, rfl⟩
  rw [← hR]
  have HR : Hid (R = (decide (s.size ≠ 0 ∧ s.size ≤ 400) && allB digB s)) := hR
  clear hR
  go_enter Tryd.func46, Tryd.ntmps46
  go_wp2
  go_loopw [3] (fun i wr => ∃ k : Nat, k ≤ s.size ∧ i = .int .i64 k ∧ (∀ j (h : j < s.size), j < k → digB (s[j]'h).toNat = true) ∧ wr = w) (fun i _ => s.size - (intOf i).toNat)
  case atStart => exact ⟨0, Nat.zero_le _, rfl, fun j _ hj => by omega, rfl⟩
  case round =>
    obtain ⟨k, hk, rfl, hy, rfl⟩ := hrel
    have HY : Hid (∀ j (h : j < s.size), j < k → digB (s[j]'h).toNat = true) := hy
    clear hy
    by_cases hlt : k < s.size
    · by_cases h1 : ((s[k]'hlt).toNat : Int) < 48
      · have HB : Hid (digB ((s[k]'hlt).toNat : Int) = false) := by show digB ((s[k]'hlt).toNat : Int) = false; unfold digB; rw [decide_eq_false (by omega)]; rfl
        go_wp2
        go_ret
        refine ⟨ret_boolN ?_, rfl⟩
        have : allB digB s = false := decide_eq_false (fun h => by have := h k hlt; rw [HB.out] at this; cases this)
        rw [HR.out, this, Bool.and_false]
      · have h1' : decide (((s[k]'hlt).toNat : Int) < 48) = false := by simp; omega
        by_cases h2 : (57 : Int) < ((s[k]'hlt).toNat : Int)
        · have HB : Hid (digB ((s[k]'hlt).toNat : Int) = false) := by show digB ((s[k]'hlt).toNat : Int) = false; unfold digB; rw [decide_eq_false (p := ((s[k]'hlt).toNat : Int) ≤ 57) (by omega), Bool.and_false]
          go_wp2
          go_ret
          refine ⟨ret_boolN ?_, rfl⟩
          have : allB digB s = false := decide_eq_false (fun h => by have := h k hlt; rw [HB.out] at this; cases this)
          rw [HR.out, this, Bool.and_false]
        · have h2' : decide ((57 : Int) < ((s[k]'hlt).toNat : Int)) = false := by simp; omega
          have HB : Hid (digB ((s[k]'hlt).toNat : Int) = true) := by show digB ((s[k]'hlt).toNat : Int) = true; unfold digB; rw [decide_eq_true (by omega), decide_eq_true (by omega)]; rfl
          go_wp2
          go_roundw
          case rel => exact ⟨k + 1, by omega, by go_num, fun j h hj => by
            by_cases e : j = k
            · subst e; exact HB.out
            · exact HY.out j h (by omega), trivial⟩
          case measure => simp [intOf]; omega
    · have hd : decide ((k : Int) < (s.size : Int)) = false := by simp; omega
      have HA : Hid (allB digB s = true) := decide_eq_true (fun j h => HY.out j h (by omega))
      clear HY
      by_cases h1 : (1 : Int) ≤ (s.size : Int)
      · by_cases h2 : (s.size : Int) ≤ 400
        · go_wp2
          go_ret
          exact ⟨ret_boolN (by rw [HR.out, HA.out, decide_eq_true (by omega)]; rfl), rfl⟩
        · have h2' : decide ((s.size : Int) ≤ 400) = false := by simp; omega
          go_wp2
          go_ret
          exact ⟨ret_boolN (by rw [HR.out, decide_eq_false (by omega)]; rfl), rfl⟩
      · have h1' : decide ((1 : Int) ≤ (s.size : Int)) = false := by simp; omega
        go_wp2
        go_ret
        exact ⟨ret_boolN (by rw [HR.out, decide_eq_false (by omega)]; rfl), rfl⟩
/-- May a byte stand at a place of a variable's name? -/
def okc (k : Nat) (c : Int) : Bool := (uppB c || c == 95) || (decide (k ≠ 0) && varC c)
theorem varS_ok (s : ByteArray) : varS s = (decide (s.size ≠ 0 ∧ s.size ≤ 40) && decide (∀ k (h : k < s.size), okc k (s[k]'h).toNat = true)) := by
  unfold varS
  by_cases hz : s.size = 0
  · rw [decide_eq_false (by omega), Bool.false_and, Bool.false_and]
  congr 1
  rw [Bool.eq_iff_iff]
  simp only [Bool.and_eq_true, decide_eq_true_eq, allB]
  constructor
  · rintro ⟨h1, h2⟩ k hk
    by_cases h0 : k = 0
    · subst h0
      unfold vhead at h1
      rw [dif_pos hk] at h1
      unfold okc
      rw [h1]; rfl
    · have := h2 k hk
      unfold okc
      rw [this]
      simp [h0]
  · intro h
    have hp : 0 < s.size := by omega
    refine ⟨?_, fun k hk => ?_⟩
    · have h1 := h 0 hp
      unfold vhead
      rw [dif_pos hp]
      unfold okc at h1
      simpa using h1
    · have h1 := h k hk
      unfold okc at h1
      unfold varC at h1 ⊢
      simp only [Bool.or_eq_true, Bool.and_eq_true] at h1 ⊢
      rcases h1 with (h1 | h1) | h1
      · exact Or.inl h1
      · exact Or.inr (Or.inr (Or.inr (Or.inl h1)))
      · exact h1.2

set_option maxHeartbeats 4000000 in
set_option maxRecDepth 100000 in
theorem rvariable (s : ByteArray) (w : World) (hs : s.size ≤ 9223372036854775807) : Calls Tryd.prog 47 #[.string s] w fun e w' => e = .returned (.bool (varS s)) ∧ w' = w := by
  obtain ⟨R, hR⟩ : ∃ R, R = varS s := ⟨_, rfl⟩
  rw [← hR]
  rw [varS_ok] at hR
  have HR : Hid (R = (decide (s.size ≠ 0 ∧ s.size ≤ 40) && decide (∀ k (h : k < s.size), okc k (s[k]'h).toNat = true))) := hR
  clear hR
  go_enter Tryd.func47, Tryd.ntmps47
  go_wp2
  go_loopw [3] (fun i wr => ∃ k : Nat, k ≤ s.size ∧ i = .int .i64 k ∧ (∀ j (h : j < s.size), j < k → okc j (s[j]'h).toNat = true) ∧ wr = w) (fun i _ => s.size - (intOf i).toNat)
  case atStart => exact ⟨0, Nat.zero_le _, rfl, fun j _ hj => by omega, rfl⟩
  case round =>
    obtain ⟨k, hk, rfl, hy, rfl⟩ := hrel
    have HY : Hid (∀ j (h : j < s.size), j < k → okc j (s[j]'h).toNat = true) := hy
    clear hy
    by_cases hlt : k < s.size
    · have hcls : (65 ≤ ((s[k]'hlt).toNat : Int) ∧ ((s[k]'hlt).toNat : Int) ≤ 90) ∨ ((s[k]'hlt).toNat : Int) = 95 ∨ (97 ≤ ((s[k]'hlt).toNat : Int) ∧ ((s[k]'hlt).toNat : Int) ≤ 122) ∨ (48 ≤ ((s[k]'hlt).toNat : Int) ∧ ((s[k]'hlt).toNat : Int) ≤ 57) ∨ ((s[k]'hlt).toNat : Int) = 64 ∨ ((s[k]'hlt).toNat : Int) < 48 ∨ (58 ≤ ((s[k]'hlt).toNat : Int) ∧ ((s[k]'hlt).toNat : Int) ≤ 63) ∨ ((91 ≤ ((s[k]'hlt).toNat : Int) ∧ ((s[k]'hlt).toNat : Int) ≤ 94) ∨ ((s[k]'hlt).toNat : Int) = 96) ∨ 122 < ((s[k]'hlt).toNat : Int) := by omega
      rcases hcls with hc | hc | hc | hc | hc | hc | hc | hc | hc
      · have f_ge65 : (65 : Int) ≤ ((s[k]'hlt).toNat : Int) := by omega
        have f_le90 : ((s[k]'hlt).toNat : Int) ≤ (90 : Int) := by omega
        have HB : Hid (okc k ((s[k]'hlt).toNat : Int) = true) := by show okc k ((s[k]'hlt).toNat : Int) = true; unfold okc varC uppB digB; simp; omega
        go_wp2
        go_roundw
        case rel => exact ⟨k + 1, by omega, by go_num, fun j h hj => by
          by_cases e : j = k
          · subst e; exact HB.out
          · exact HY.out j h (by omega), trivial⟩
        case measure => simp [intOf]; omega
      · have f_ge65 : (65 : Int) ≤ ((s[k]'hlt).toNat : Int) := by omega
        have f_le90 : decide (((s[k]'hlt).toNat : Int) ≤ (90 : Int)) = false := by simp; omega
        have f_eq95 : (((s[k]'hlt).toNat : Int) == (95 : Int)) = true := by simp; omega
        have HB : Hid (okc k ((s[k]'hlt).toNat : Int) = true) := by show okc k ((s[k]'hlt).toNat : Int) = true; unfold okc varC uppB digB; simp; omega
        go_wp2
        go_roundw
        case rel => exact ⟨k + 1, by omega, by go_num, fun j h hj => by
          by_cases e : j = k
          · subst e; exact HB.out
          · exact HY.out j h (by omega), trivial⟩
        case measure => simp [intOf]; omega
      · have f_ge65 : (65 : Int) ≤ ((s[k]'hlt).toNat : Int) := by omega
        have f_le90 : decide (((s[k]'hlt).toNat : Int) ≤ (90 : Int)) = false := by simp; omega
        have f_eq95 : (((s[k]'hlt).toNat : Int) == (95 : Int)) = false := by simp; omega
        have f_ge97 : (97 : Int) ≤ ((s[k]'hlt).toNat : Int) := by omega
        have f_le122 : ((s[k]'hlt).toNat : Int) ≤ (122 : Int) := by omega
        by_cases h0 : k = 0
        · subst h0
          have HB : Hid (okc 0 ((s[0]'hlt).toNat : Int) = false) := by show okc 0 ((s[0]'hlt).toNat : Int) = false; unfold okc varC uppB digB; simp; omega
          go_wp2
          go_ret
          refine ⟨ret_boolN ?_, rfl⟩
          have hf : decide (∀ k (h : k < s.size), okc k (s[k]'h).toNat = true) = false := decide_eq_false (fun h => by have := h 0 hlt; rw [HB.out] at this; cases this)
          rw [HR.out, hf, Bool.and_false]
        · have h0b : ((k : Int) == 0) = false := by simp; omega
          have HB : Hid (okc k ((s[k]'hlt).toNat : Int) = true) := by show okc k ((s[k]'hlt).toNat : Int) = true; unfold okc varC uppB digB; simp; omega
          go_wp2
          go_roundw
          case rel => exact ⟨k + 1, by omega, by go_num, fun j h hj => by
            by_cases e : j = k
            · subst e; exact HB.out
            · exact HY.out j h (by omega), trivial⟩
          case measure => simp [intOf]; omega
      · have f_ge65 : decide ((65 : Int) ≤ ((s[k]'hlt).toNat : Int)) = false := by simp; omega
        have f_eq95 : (((s[k]'hlt).toNat : Int) == (95 : Int)) = false := by simp; omega
        have f_ge97 : decide ((97 : Int) ≤ ((s[k]'hlt).toNat : Int)) = false := by simp; omega
        have f_ge48 : (48 : Int) ≤ ((s[k]'hlt).toNat : Int) := by omega
        have f_le57 : ((s[k]'hlt).toNat : Int) ≤ (57 : Int) := by omega
        by_cases h0 : k = 0
        · subst h0
          have HB : Hid (okc 0 ((s[0]'hlt).toNat : Int) = false) := by show okc 0 ((s[0]'hlt).toNat : Int) = false; unfold okc varC uppB digB; simp; omega
          go_wp2
          go_ret
          refine ⟨ret_boolN ?_, rfl⟩
          have hf : decide (∀ k (h : k < s.size), okc k (s[k]'h).toNat = true) = false := decide_eq_false (fun h => by have := h 0 hlt; rw [HB.out] at this; cases this)
          rw [HR.out, hf, Bool.and_false]
        · have h0b : ((k : Int) == 0) = false := by simp; omega
          have HB : Hid (okc k ((s[k]'hlt).toNat : Int) = true) := by show okc k ((s[k]'hlt).toNat : Int) = true; unfold okc varC uppB digB; simp; omega
          go_wp2
          go_roundw
          case rel => exact ⟨k + 1, by omega, by go_num, fun j h hj => by
            by_cases e : j = k
            · subst e; exact HB.out
            · exact HY.out j h (by omega), trivial⟩
          case measure => simp [intOf]; omega
      · have f_ge65 : decide ((65 : Int) ≤ ((s[k]'hlt).toNat : Int)) = false := by simp; omega
        have f_eq95 : (((s[k]'hlt).toNat : Int) == (95 : Int)) = false := by simp; omega
        have f_ge97 : decide ((97 : Int) ≤ ((s[k]'hlt).toNat : Int)) = false := by simp; omega
        have f_ge48 : (48 : Int) ≤ ((s[k]'hlt).toNat : Int) := by omega
        have f_le57 : decide (((s[k]'hlt).toNat : Int) ≤ (57 : Int)) = false := by simp; omega
        have f_eq64 : (((s[k]'hlt).toNat : Int) == (64 : Int)) = true := by simp; omega
        by_cases h0 : k = 0
        · subst h0
          have HB : Hid (okc 0 ((s[0]'hlt).toNat : Int) = false) := by show okc 0 ((s[0]'hlt).toNat : Int) = false; unfold okc varC uppB digB; simp; omega
          go_wp2
          go_ret
          refine ⟨ret_boolN ?_, rfl⟩
          have hf : decide (∀ k (h : k < s.size), okc k (s[k]'h).toNat = true) = false := decide_eq_false (fun h => by have := h 0 hlt; rw [HB.out] at this; cases this)
          rw [HR.out, hf, Bool.and_false]
        · have h0b : ((k : Int) == 0) = false := by simp; omega
          have HB : Hid (okc k ((s[k]'hlt).toNat : Int) = true) := by show okc k ((s[k]'hlt).toNat : Int) = true; unfold okc varC uppB digB; simp; omega
          go_wp2
          go_roundw
          case rel => exact ⟨k + 1, by omega, by go_num, fun j h hj => by
            by_cases e : j = k
            · subst e; exact HB.out
            · exact HY.out j h (by omega), trivial⟩
          case measure => simp [intOf]; omega
      · have f_ge65 : decide ((65 : Int) ≤ ((s[k]'hlt).toNat : Int)) = false := by simp; omega
        have f_eq95 : (((s[k]'hlt).toNat : Int) == (95 : Int)) = false := by simp; omega
        have f_ge97 : decide ((97 : Int) ≤ ((s[k]'hlt).toNat : Int)) = false := by simp; omega
        have f_ge48 : decide ((48 : Int) ≤ ((s[k]'hlt).toNat : Int)) = false := by simp; omega
        have f_eq64 : (((s[k]'hlt).toNat : Int) == (64 : Int)) = false := by simp; omega
        by_cases h0 : k = 0
        · subst h0
          have HB : Hid (okc 0 ((s[0]'hlt).toNat : Int) = false) := by show okc 0 ((s[0]'hlt).toNat : Int) = false; unfold okc varC uppB digB; simp; omega
          go_wp2
          go_ret
          refine ⟨ret_boolN ?_, rfl⟩
          have hf : decide (∀ k (h : k < s.size), okc k (s[k]'h).toNat = true) = false := decide_eq_false (fun h => by have := h 0 hlt; rw [HB.out] at this; cases this)
          rw [HR.out, hf, Bool.and_false]
        · have h0b : ((k : Int) == 0) = false := by simp; omega
          have HB : Hid (okc k ((s[k]'hlt).toNat : Int) = false) := by show okc k ((s[k]'hlt).toNat : Int) = false; unfold okc varC uppB digB; simp; omega
          go_wp2
          go_ret
          refine ⟨ret_boolN ?_, rfl⟩
          have hf : decide (∀ k (h : k < s.size), okc k (s[k]'h).toNat = true) = false := decide_eq_false (fun h => by have := h k hlt; rw [HB.out] at this; cases this)
          rw [HR.out, hf, Bool.and_false]
      · have f_ge65 : decide ((65 : Int) ≤ ((s[k]'hlt).toNat : Int)) = false := by simp; omega
        have f_eq95 : (((s[k]'hlt).toNat : Int) == (95 : Int)) = false := by simp; omega
        have f_ge97 : decide ((97 : Int) ≤ ((s[k]'hlt).toNat : Int)) = false := by simp; omega
        have f_ge48 : (48 : Int) ≤ ((s[k]'hlt).toNat : Int) := by omega
        have f_le57 : decide (((s[k]'hlt).toNat : Int) ≤ (57 : Int)) = false := by simp; omega
        have f_eq64 : (((s[k]'hlt).toNat : Int) == (64 : Int)) = false := by simp; omega
        by_cases h0 : k = 0
        · subst h0
          have HB : Hid (okc 0 ((s[0]'hlt).toNat : Int) = false) := by show okc 0 ((s[0]'hlt).toNat : Int) = false; unfold okc varC uppB digB; simp; omega
          go_wp2
          go_ret
          refine ⟨ret_boolN ?_, rfl⟩
          have hf : decide (∀ k (h : k < s.size), okc k (s[k]'h).toNat = true) = false := decide_eq_false (fun h => by have := h 0 hlt; rw [HB.out] at this; cases this)
          rw [HR.out, hf, Bool.and_false]
        · have h0b : ((k : Int) == 0) = false := by simp; omega
          have HB : Hid (okc k ((s[k]'hlt).toNat : Int) = false) := by show okc k ((s[k]'hlt).toNat : Int) = false; unfold okc varC uppB digB; simp; omega
          go_wp2
          go_ret
          refine ⟨ret_boolN ?_, rfl⟩
          have hf : decide (∀ k (h : k < s.size), okc k (s[k]'h).toNat = true) = false := decide_eq_false (fun h => by have := h k hlt; rw [HB.out] at this; cases this)
          rw [HR.out, hf, Bool.and_false]
      · have f_ge65 : (65 : Int) ≤ ((s[k]'hlt).toNat : Int) := by omega
        have f_le90 : decide (((s[k]'hlt).toNat : Int) ≤ (90 : Int)) = false := by simp; omega
        have f_eq95 : (((s[k]'hlt).toNat : Int) == (95 : Int)) = false := by simp; omega
        have f_ge97 : decide ((97 : Int) ≤ ((s[k]'hlt).toNat : Int)) = false := by simp; omega
        have f_ge48 : (48 : Int) ≤ ((s[k]'hlt).toNat : Int) := by omega
        have f_le57 : decide (((s[k]'hlt).toNat : Int) ≤ (57 : Int)) = false := by simp; omega
        have f_eq64 : (((s[k]'hlt).toNat : Int) == (64 : Int)) = false := by simp; omega
        by_cases h0 : k = 0
        · subst h0
          have HB : Hid (okc 0 ((s[0]'hlt).toNat : Int) = false) := by show okc 0 ((s[0]'hlt).toNat : Int) = false; unfold okc varC uppB digB; simp; omega
          go_wp2
          go_ret
          refine ⟨ret_boolN ?_, rfl⟩
          have hf : decide (∀ k (h : k < s.size), okc k (s[k]'h).toNat = true) = false := decide_eq_false (fun h => by have := h 0 hlt; rw [HB.out] at this; cases this)
          rw [HR.out, hf, Bool.and_false]
        · have h0b : ((k : Int) == 0) = false := by simp; omega
          have HB : Hid (okc k ((s[k]'hlt).toNat : Int) = false) := by show okc k ((s[k]'hlt).toNat : Int) = false; unfold okc varC uppB digB; simp; omega
          go_wp2
          go_ret
          refine ⟨ret_boolN ?_, rfl⟩
          have hf : decide (∀ k (h : k < s.size), okc k (s[k]'h).toNat = true) = false := decide_eq_false (fun h => by have := h k hlt; rw [HB.out] at this; cases this)
          rw [HR.out, hf, Bool.and_false]
      · have f_ge65 : (65 : Int) ≤ ((s[k]'hlt).toNat : Int) := by omega
        have f_le90 : decide (((s[k]'hlt).toNat : Int) ≤ (90 : Int)) = false := by simp; omega
        have f_eq95 : (((s[k]'hlt).toNat : Int) == (95 : Int)) = false := by simp; omega
        have f_ge97 : (97 : Int) ≤ ((s[k]'hlt).toNat : Int) := by omega
        have f_le122 : decide (((s[k]'hlt).toNat : Int) ≤ (122 : Int)) = false := by simp; omega
        have f_ge48 : (48 : Int) ≤ ((s[k]'hlt).toNat : Int) := by omega
        have f_le57 : decide (((s[k]'hlt).toNat : Int) ≤ (57 : Int)) = false := by simp; omega
        have f_eq64 : (((s[k]'hlt).toNat : Int) == (64 : Int)) = false := by simp; omega
        by_cases h0 : k = 0
        · subst h0
          have HB : Hid (okc 0 ((s[0]'hlt).toNat : Int) = false) := by show okc 0 ((s[0]'hlt).toNat : Int) = false; unfold okc varC uppB digB; simp; omega
          go_wp2
          go_ret
          refine ⟨ret_boolN ?_, rfl⟩
          have hf : decide (∀ k (h : k < s.size), okc k (s[k]'h).toNat = true) = false := decide_eq_false (fun h => by have := h 0 hlt; rw [HB.out] at this; cases this)
          rw [HR.out, hf, Bool.and_false]
        · have h0b : ((k : Int) == 0) = false := by simp; omega
          have HB : Hid (okc k ((s[k]'hlt).toNat : Int) = false) := by show okc k ((s[k]'hlt).toNat : Int) = false; unfold okc varC uppB digB; simp; omega
          go_wp2
          go_ret
          refine ⟨ret_boolN ?_, rfl⟩
          have hf : decide (∀ k (h : k < s.size), okc k (s[k]'h).toNat = true) = false := decide_eq_false (fun h => by have := h k hlt; rw [HB.out] at this; cases this)
          rw [HR.out, hf, Bool.and_false]
    · have hd : decide ((k : Int) < (s.size : Int)) = false := by simp; omega
      have HA : Hid (decide (∀ k (h : k < s.size), okc k (s[k]'h).toNat = true) = true) := decide_eq_true (fun j h => HY.out j h (by omega))
      clear HY
      by_cases h1 : s.size = 0
      · have hb := empty_is h1
        go_wp2
        go_ret
        exact ⟨ret_boolN (by rw [HR.out, decide_eq_false (by omega)]; rfl), rfl⟩
      · have hb := empty_isn h1
        by_cases h2 : (s.size : Int) ≤ 40
        · go_wp2
          go_ret
          exact ⟨ret_boolN (by rw [HR.out, HA.out, decide_eq_true (by omega)]; rfl), rfl⟩
        · have h2' : decide ((s.size : Int) ≤ 40) = false := by simp; omega
          go_wp2
          go_ret
          exact ⟨ret_boolN (by rw [HR.out, decide_eq_false (by omega)]; rfl), rfl⟩

end Go.Proofs.YtehfoblfmehbdaaDoor
