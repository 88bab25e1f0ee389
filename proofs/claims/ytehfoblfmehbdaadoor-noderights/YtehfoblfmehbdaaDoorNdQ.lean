/- The bytes of numbers and variables, by their contracts. -/
import Derived.Test.YtehfoblfmehbdaaDoorNdP
import Derived.Lib.Strings
namespace Go.Proofs.YtehfoblfmehbdaaDoor
open Go.RowKit

def digB (c : Int) : Bool := decide (48 ≤ c) && decide (c ≤ 57)
def uppB (c : Int) : Bool := decide (65 ≤ c) && decide (c ≤ 90)
def varC (c : Int) : Bool := uppB c || ((decide (97 ≤ c) && decide (c ≤ 122)) || (digB c || ((c == 95) || (c == 64))))
/-- Of all bytes it holds. -/
def allB (p : Int → Bool) (s : ByteArray) : Bool := decide (∀ k (h : k < s.size), p (s[k]'h).toNat = true)

set_option maxHeartbeats 400000 in
theorem isDigit_any (c : Int) (w : World) : Calls Tryd.prog 73 #[.int .u8 c] w fun e w' => e = .returned (.bool (digB c)) ∧ w' = w := by
  unfold digB
  by_cases h : 48 ≤ c
  · by_cases h2 : c ≤ 57
    · rw [decide_eq_true h, decide_eq_true h2]
      go_enter Tryd.func73, Tryd.ntmps73
      go_wp2
      go_ret
      exact ⟨rfl, rfl⟩
    · have hd : decide (c ≤ 57) = false := by simp; omega
      rw [decide_eq_true h, hd]
      go_enter Tryd.func73, Tryd.ntmps73
      go_wp2
      go_ret
      exact ⟨rfl, rfl⟩
  · have hd : decide (48 ≤ c) = false := by simp; omega
    rw [hd]
    go_enter Tryd.func73, Tryd.ntmps73
    go_wp2
    go_ret
    exact ⟨rfl, rfl⟩
set_option maxHeartbeats 400000 in
theorem isUpper_any (c : Int) (w : World) : Calls Tryd.prog 74 #[.int .u8 c] w fun e w' => e = .returned (.bool (uppB c)) ∧ w' = w := by
  unfold uppB
  by_cases h : 65 ≤ c
  · by_cases h2 : c ≤ 90
    · rw [decide_eq_true h, decide_eq_true h2]
      go_enter Tryd.func74, Tryd.ntmps74
      go_wp2
      go_ret
      exact ⟨rfl, rfl⟩
    · have hd : decide (c ≤ 90) = false := by simp; omega
      rw [decide_eq_true h, hd]
      go_enter Tryd.func74, Tryd.ntmps74
      go_wp2
      go_ret
      exact ⟨rfl, rfl⟩
  · have hd : decide (65 ≤ c) = false := by simp; omega
    rw [hd]
    go_enter Tryd.func74, Tryd.ntmps74
    go_wp2
    go_ret
    exact ⟨rfl, rfl⟩

set_option maxHeartbeats 1000000 in
theorem isVarC_any (c : Int) (w : World) : Calls Tryd.prog 75 #[.int .u8 c] w fun e w' => e = .returned (.bool (varC c)) ∧ w' = w := by
  unfold varC
  obtain ⟨u, hu⟩ : ∃ u, uppB c = u := ⟨_, rfl⟩
  obtain ⟨g, hg⟩ : ∃ g, digB c = g := ⟨_, rfl⟩
  obtain ⟨m, hm⟩ : ∃ m, (c == 95) = m := ⟨_, rfl⟩
  obtain ⟨n, hn⟩ : ∃ n, (c == 64) = n := ⟨_, rfl⟩
  have HU : Hid (∀ W, Calls Tryd.prog 74 #[.int .u8 c] W fun e w' => e = .returned (.bool u) ∧ w' = W) := fun W => by rw [← hu]; exact isUpper_any c W
  have HG : Hid (∀ W, Calls Tryd.prog 73 #[.int .u8 c] W fun e w' => e = .returned (.bool g) ∧ w' = W) := fun W => by rw [← hg]; exact isDigit_any c W
  rw [hu, hg, hm, hn]
  clear hu hg
  cases u with
  | true =>
    go_enter Tryd.func75, Tryd.ntmps75
    go_wp2_with fail
    refine (HU.out _).mono ?_
    rintro e w1 ⟨rfl, rfl⟩
    go_wp2
    go_ret
    exact ⟨rfl, rfl⟩
  | false =>
    by_cases h : 97 ≤ c
    · by_cases h2 : c ≤ 122
      · rw [decide_eq_true h, decide_eq_true h2]
        go_enter Tryd.func75, Tryd.ntmps75
        go_wp2_with fail
        refine (HU.out _).mono ?_
        rintro e w1 ⟨rfl, rfl⟩
        go_wp2
        go_ret
        exact ⟨rfl, rfl⟩
      · have hd : decide (c ≤ 122) = false := by simp; omega
        rw [decide_eq_true h, hd]
        cases g with
        | true =>
          go_enter Tryd.func75, Tryd.ntmps75
          go_wp2_with fail
          refine (HU.out _).mono ?_
          rintro e w1 ⟨rfl, rfl⟩
          go_wp2_with fail
          refine (HG.out _).mono ?_
          rintro e w1 ⟨rfl, rfl⟩
          go_wp2
          go_ret
          exact ⟨rfl, rfl⟩
        | false =>
          cases m with
          | true =>
            go_enter Tryd.func75, Tryd.ntmps75
            go_wp2_with fail
            refine (HU.out _).mono ?_
            rintro e w1 ⟨rfl, rfl⟩
            go_wp2_with fail
            refine (HG.out _).mono ?_
            rintro e w1 ⟨rfl, rfl⟩
            go_wp2
            go_ret
            exact ⟨rfl, rfl⟩
          | false =>
            go_enter Tryd.func75, Tryd.ntmps75
            go_wp2_with fail
            refine (HU.out _).mono ?_
            rintro e w1 ⟨rfl, rfl⟩
            go_wp2_with fail
            refine (HG.out _).mono ?_
            rintro e w1 ⟨rfl, rfl⟩
            go_wp2
            go_ret
            exact ⟨rfl, rfl⟩
    · have hd : decide (97 ≤ c) = false := by simp; omega
      rw [hd]
      cases g with
      | true =>
        go_enter Tryd.func75, Tryd.ntmps75
        go_wp2_with fail
        refine (HU.out _).mono ?_
        rintro e w1 ⟨rfl, rfl⟩
        go_wp2_with fail
        refine (HG.out _).mono ?_
        rintro e w1 ⟨rfl, rfl⟩
        go_wp2
        go_ret
        exact ⟨rfl, rfl⟩
      | false =>
        cases m with
        | true =>
          go_enter Tryd.func75, Tryd.ntmps75
          go_wp2_with fail
          refine (HU.out _).mono ?_
          rintro e w1 ⟨rfl, rfl⟩
          go_wp2_with fail
          refine (HG.out _).mono ?_
          rintro e w1 ⟨rfl, rfl⟩
          go_wp2
          go_ret
          exact ⟨rfl, rfl⟩
        | false =>
          go_enter Tryd.func75, Tryd.ntmps75
          go_wp2_with fail
          refine (HU.out _).mono ?_
          rintro e w1 ⟨rfl, rfl⟩
          go_wp2_with fail
          refine (HG.out _).mono ?_
          rintro e w1 ⟨rfl, rfl⟩
          go_wp2
          go_ret
          exact ⟨rfl, rfl⟩

set_option maxHeartbeats 1000000 in
set_option maxRecDepth 100000 in
theorem allBytes_any (s : ByteArray) (fid : Nat) (p : Int → Bool) (w : World) (hs : s.size ≤ 9223372036854775807) (eg : ∀ args w, (callFunc fid args).run Tryd.prog w = .ok (.enter fid args) w)
    (hp : ∀ (c : Int) (w : World), Calls Tryd.prog fid #[.int .u8 c] w fun e w' => e = .returned (.bool (p c)) ∧ w' = w) :
    Calls Tryd.prog 72 #[.string s, .func (.func fid) #[] #[]] w fun e w' => e = .returned (.bool (allB p s)) ∧ w' = w := by
  have HP : Hid (∀ (c : Int) (w : World), Calls Tryd.prog fid #[.int .u8 c] w fun e w' => e = .returned (.bool (p c)) ∧ w' = w) := hp
  clear hp
  go_enter Tryd.func72, Tryd.ntmps72
  go_wp2
  go_loopw [8] (fun i wr => ∃ k : Nat, k ≤ s.size ∧ i = .int .i64 k ∧ (∀ j (h : j < s.size), j < k → p (s[j]'h).toNat = true) ∧ wr = w) (fun i _ => s.size - (intOf i).toNat)
  case atStart => exact ⟨0, Nat.zero_le _, rfl, fun j _ hj => by omega, rfl⟩
  case round =>
    obtain ⟨k, hk, rfl, hy, rfl⟩ := hrel
    have HY : Hid (∀ j (h : j < s.size), j < k → p (s[j]'h).toNat = true) := hy
    clear hy
    by_cases hlt : k < s.size
    · obtain ⟨b, hb⟩ : ∃ b, p ((s[k]'hlt).toNat : Int) = b := ⟨_, rfl⟩
      have HB : Hid (p ((s[k]'hlt).toNat : Int) = b) := hb
      have HC : Hid (∀ W, Calls Tryd.prog fid #[.int .u8 ((s[k]'hlt).toNat : Int)] W fun e w' => e = .returned (.bool b) ∧ w' = W) := fun W => by rw [← hb]; exact HP.out _ W
      clear hb
      go_wp2_with fail
      refine (HC.out _).mono ?_
      rintro e w1 ⟨rfl, rfl⟩
      cases b with
      | true =>
        go_wp2
        go_roundw
        case rel => exact ⟨k + 1, by omega, by go_num, fun j h hj => by
          by_cases e : j = k
          · subst e; exact HB.out
          · exact HY.out j h (by omega), trivial⟩
        case measure => simp [intOf]; omega
      | false =>
        go_wp2
        go_ret
        refine ⟨?_, rfl⟩
        have : allB p s = false := decide_eq_false (fun h => by have := h k hlt; rw [HB.out] at this; cases this)
        rw [this]
        rfl
    · have hd : decide ((k : Int) < (s.size : Int)) = false := by simp; omega
      go_wp2
      go_ret
      refine ⟨?_, rfl⟩
      have : allB p s = true := decide_eq_true (fun j h => HY.out j h (by omega))
      rw [this]
      rfl

end Go.Proofs.YtehfoblfmehbdaaDoor
