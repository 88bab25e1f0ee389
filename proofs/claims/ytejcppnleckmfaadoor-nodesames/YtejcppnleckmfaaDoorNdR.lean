/- Numbers and variables, by their contracts. -/
import Derived.Test.YtejcppnleckmfaaDoorNdQ
import Derived.Laws.Closers25
namespace Go.Proofs.YtejcppnleckmfaaDoor
open Go.RowKit

/-- The document's number. -/
def numS (s : ByteArray) : Bool := decide (s.size ≠ 0 ∧ s.size ≤ 400) && allB digB s
/-- Its first byte begins a variable. -/
def vhead (s : ByteArray) : Bool := if h : 0 < s.size then uppB (s[0]'h).toNat || ((s[0]'h).toNat : Int) == 95 else false
/-- The document's variable. -/
def varS (s : ByteArray) : Bool := decide (s.size ≠ 0 ∧ s.size ≤ 40) && (vhead s && allB varC s)

theorem empty_is {s : ByteArray} (h : s.size = 0) : s = ⟨#[]⟩ := by
  cases s with
  | mk d => congr; exact Array.eq_empty_of_size_eq_zero h
theorem empty_isn {s : ByteArray} (h : s.size ≠ 0) : s.toList.isEmpty = false := by
  rw [← decide_eq_emptyBytes]
  simp only [decide_eq_false_iff_not]
  intro e; subst e; simp at h

set_option maxHeartbeats 1000000 in
set_option maxRecDepth 100000 in
theorem isNumber_any (s : ByteArray) (w : World) (hs : s.size ≤ 9223372036854775807) :
    Calls Tryd.prog 51 #[.string s] w fun e w' => e = .returned (.bool (numS s)) ∧ w' = w := by
  unfold numS
  obtain ⟨b, hb⟩ : ∃ b, allB digB s = b := ⟨_, rfl⟩
  have HB : Hid (∀ W, Calls Tryd.prog 55 #[.string s, .func (.func 56) #[] #[]] W fun e w' => e = .returned (.bool b) ∧ w' = W) := fun W => by
    rw [← hb]; exact allBytes_any s _ digB W hs Tryd.call56 isDigit_any
  rw [hb]
  clear hb
  by_cases h0 : s.size = 0
  · obtain rfl := empty_is h0
    go_enter Tryd.func51, Tryd.ntmps51
    go_wp2
    go_ret
    exact ⟨rfl, rfl⟩
  · have hq := empty_isn h0
    by_cases h1 : s.size ≤ 400
    · rw [decide_eq_true (⟨h0, h1⟩ : s.size ≠ 0 ∧ s.size ≤ 400), Bool.true_and]
      have hd : decide ((s.size : Int) ≤ 400) = true := by simp; omega
      go_enter Tryd.func51, Tryd.ntmps51
      go_wp2_with fail
      refine (HB.out _).mono ?_
      rintro e w1 ⟨rfl, rfl⟩
      go_wp2
      go_ret
      exact ⟨rfl, rfl⟩
    · have hx : decide (s.size ≠ 0 ∧ s.size ≤ 400) = false := decide_eq_false (fun h => h1 h.2)
      rw [hx, Bool.false_and]
      have hd : decide ((s.size : Int) ≤ 400) = false := by simp; omega
      go_enter Tryd.func51, Tryd.ntmps51
      go_wp2
      go_ret
      exact ⟨rfl, rfl⟩

set_option maxHeartbeats 1000000 in
set_option maxRecDepth 100000 in
theorem isVariable_any (s : ByteArray) (w : World) (hs : s.size ≤ 9223372036854775807) :
    Calls Tryd.prog 52 #[.string s] w fun e w' => e = .returned (.bool (varS s)) ∧ w' = w := by
  unfold varS
  obtain ⟨b, hb⟩ : ∃ b, allB varC s = b := ⟨_, rfl⟩
  have HB : Hid (∀ W, Calls Tryd.prog 55 #[.string s, .func (.func 58) #[] #[]] W fun e w' => e = .returned (.bool b) ∧ w' = W) := fun W => by
    rw [← hb]; exact allBytes_any s _ varC W hs Tryd.call58 isVarC_any
  rw [hb]
  clear hb
  by_cases h0 : s.size = 0
  · obtain rfl := empty_is h0
    go_enter Tryd.func52, Tryd.ntmps52
    go_wp2
    go_ret
    exact ⟨rfl, rfl⟩
  · have hq := empty_isn h0
    by_cases h1 : s.size ≤ 40
    · rw [decide_eq_true (⟨h0, h1⟩ : s.size ≠ 0 ∧ s.size ≤ 40), Bool.true_and]
      have hd : decide ((s.size : Int) ≤ 40) = true := by simp; omega
      have hp : 0 < s.size := Nat.pos_of_ne_zero h0
      have hv : vhead s = (uppB (s[0]'hp).toNat || ((s[0]'hp).toNat : Int) == 95) := dif_pos hp
      rw [hv]
      clear hv
      obtain ⟨u, hu⟩ : ∃ u, uppB ((s[0]'hp).toNat : Int) = u := ⟨_, rfl⟩
      have HU : Hid (∀ W, Calls Tryd.prog 57 #[.int .u8 ((s[0]'hp).toNat : Int)] W fun e w' => e = .returned (.bool u) ∧ w' = W) := fun W => by rw [← hu]; exact isUpper_any _ W
      rw [hu]
      clear hu
      obtain ⟨m, hm⟩ : ∃ m, (((s[0]'hp).toNat : Int) == 95) = m := ⟨_, rfl⟩
      rw [hm]
      have hm2 : (((s[0]'hp).toNat : Int) != 95) = !m := by rw [bne, hm]
      cases u with
      | true =>
        go_enter Tryd.func52, Tryd.ntmps52
        go_wp2_with fail
        refine (HU.out _).mono ?_
        rintro e w1 ⟨rfl, rfl⟩
        go_wp2_with fail
        refine (HB.out _).mono ?_
        rintro e w1 ⟨rfl, rfl⟩
        go_wp2
        go_ret
        exact ⟨rfl, rfl⟩
      | false =>
        cases m with
        | true =>
          go_enter Tryd.func52, Tryd.ntmps52
          go_wp2_with fail
          refine (HU.out _).mono ?_
          rintro e w1 ⟨rfl, rfl⟩
          go_wp2_with fail
          refine (HB.out _).mono ?_
          rintro e w1 ⟨rfl, rfl⟩
          go_wp2
          go_ret
          exact ⟨rfl, rfl⟩
        | false =>
          go_enter Tryd.func52, Tryd.ntmps52
          go_wp2_with fail
          refine (HU.out _).mono ?_
          rintro e w1 ⟨rfl, rfl⟩
          go_wp2
          go_ret
          exact ⟨rfl, rfl⟩
    · have hx : decide (s.size ≠ 0 ∧ s.size ≤ 40) = false := decide_eq_false (fun h => h1 h.2)
      rw [hx, Bool.false_and]
      have hd : decide ((s.size : Int) ≤ 40) = false := by simp; omega
      go_enter Tryd.func52, Tryd.ntmps52
      go_wp2
      go_ret
      exact ⟨rfl, rfl⟩

end Go.Proofs.YtejcppnleckmfaaDoor
