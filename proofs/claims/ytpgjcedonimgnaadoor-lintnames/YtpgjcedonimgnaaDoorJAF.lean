/- throughout of package node, of whatever closure that asks one node. -/
import Derived.Test.YtpgjcedonimgnaaDoorNdG
import Derived.Lib.Strings

namespace Go.Proofs.YtpgjcedonimgnaaDoor
open Go.RowKit

mutual
/-- It holds for a node and all that is in it. -/
def thru (p : Nd → Bool) : Nd → Bool
  | .mk k s num pos K => p (.mk k s num pos K) && thrus p K
def thrus (p : Nd → Bool) : List Nd → Bool
  | [] => true
  | n :: r => thru p n && thrus p r
end
theorem thrus_get (p : Nd → Bool) (K : List Nd) (h : thrus p K = true) (k : Nat) (hk : k < K.length) : thru p K[k] = true := by
  induction K generalizing k with
  | nil => simp at hk
  | cons t r ih =>
    rw [thrus, Bool.and_eq_true] at h
    cases k with
    | zero => exact h.1
    | succ k => simp only [List.getElem_cons_succ]; exact ih h.2 k (by simpa using hk)
theorem thrus_all (p : Nd → Bool) (K : List Nd) (h : ∀ k (hk : k < K.length), thru p K[k] = true) : thrus p K = true := by
  induction K with
  | nil => rw [thrus]
  | cons t r ih =>
    have h0 := h 0 (by simp)
    rw [thrus, Bool.and_eq_true]
    exact ⟨h0, ih (fun k hk => by have := h (k + 1) (by simpa using hk); simpa using this)⟩
/-- What a call has: something that is called. -/
def callOk (t : Nd) : Bool := decide (t.kd ≠ 9) || decide (0 < t.kids.length)

/-- A closure that asks one node, and keeps nothing. -/
def Asks (fid : Nat) (p : Nd → Bool) : Prop := ∀ (d : Nat) (w : World) (cs : List Value) (t : Nd), NIn w d cs t → nsz t ≤ 2199023255488 → callOk t = true → Calls Tryd.prog fid #[.agg cs.toArray] w fun e w' => e = .returned (.bool (p t)) ∧ Upd [] w w'
structure ThrI (w : World) (p : Nd → Bool) (K : List Nd) (k : Nat) (W : World) : Prop where
  upd : Upd [] w W
  yes : ∀ j (hj : j < K.length), j < k → thru p K[j] = true
def ThrF (w : World) (p : Nd → Bool) (K : List Nd) (W : World) : Prop := thrus p K = false ∧ Upd [] w W

end Go.Proofs.YtpgjcedonimgnaaDoor

/- What Pattern and Guard ask of one node. -/
namespace Go.Proofs.YtpgjcedonimgnaaDoor
open Go.RowKit

def headK (K : List Nd) : Int := match K with
  | [] => 0
  | n :: _ => n.kd
def patB : Nd → Bool
  | .mk k s _ _ K => if k = 1 ∨ k = 2 ∨ k = 3 ∨ k = 4 ∨ k = 5 ∨ k = 6 ∨ k = 8 then true else if k = 7 then (s.toList == [45]) && (decide (K.length = 1) && (headK K == 1)) else false
def grdB : Nd → Bool
  | .mk k s _ _ K => if k = 1 ∨ k = 2 ∨ k = 3 ∨ k = 4 ∨ k = 5 ∨ k = 6 then true else if k = 7 then !(s.toList == [33]) && (!(s.toList == [43, 43]) && !(s.toList == [45, 45])) else if k = 9 then headK K == 2 else false
theorem head_cell {w : World} {d : Nat} {a : Option Addr} {K : List Nd} (h : RowN (NIn w d) w a K) (h0 : 0 < K.length) : ∃ b o, a = some ⟨b, o, none⟩ ∧ b < w.heap.size ∧ w.cell? ⟨b, o, none⟩ = some (.int .u8 (headK K)) := by
  rcases h with h | ⟨b, o, rfl, hb, hc⟩
  · rw [h] at h0; simp at h0
  · obtain ⟨cs, k1, k2, k3⟩ := hc 0 h0
    have := k2 0 (by omega)
    rw [k3.kd] at this
    refine ⟨b, o, rfl, hb, ?_⟩
    cases K with
    | nil => simp at h0
    | cons n r => simpa [headK] using this
end Go.Proofs.YtpgjcedonimgnaaDoor

/- The bytes of numbers and variables, by their contracts. -/
namespace Go.Proofs.YtpgjcedonimgnaaDoor
open Go.RowKit

def digB (c : Int) : Bool := decide (48 ≤ c) && decide (c ≤ 57)
def uppB (c : Int) : Bool := decide (65 ≤ c) && decide (c ≤ 90)
def varC (c : Int) : Bool := uppB c || ((decide (97 ≤ c) && decide (c ≤ 122)) || (digB c || ((c == 95) || (c == 64))))
/-- Of all bytes it holds. -/
def allB (p : Int → Bool) (s : ByteArray) : Bool := decide (∀ k (h : k < s.size), p (s[k]'h).toNat = true)

set_option maxHeartbeats 400000 in
theorem isDigit_any (c : Int) (w : World) : Calls Tryd.prog 56 #[.int .u8 c] w fun e w' => e = .returned (.bool (digB c)) ∧ w' = w := by
  unfold digB
  by_cases h : 48 ≤ c
  · by_cases h2 : c ≤ 57
    · rw [decide_eq_true h, decide_eq_true h2]
      go_enter Tryd.func56, Tryd.ntmps56
      go_wp2
      go_ret
      exact ⟨rfl, rfl⟩
    · have hd : decide (c ≤ 57) = false := by simp; omega
      rw [decide_eq_true h, hd]
      go_enter Tryd.func56, Tryd.ntmps56
      go_wp2
      go_ret
      exact ⟨rfl, rfl⟩
  · have hd : decide (48 ≤ c) = false := by simp; omega
    rw [hd]
    go_enter Tryd.func56, Tryd.ntmps56
    go_wp2
    go_ret
    exact ⟨rfl, rfl⟩
set_option maxHeartbeats 400000 in
theorem isUpper_any (c : Int) (w : World) : Calls Tryd.prog 57 #[.int .u8 c] w fun e w' => e = .returned (.bool (uppB c)) ∧ w' = w := by
  unfold uppB
  by_cases h : 65 ≤ c
  · by_cases h2 : c ≤ 90
    · rw [decide_eq_true h, decide_eq_true h2]
      go_enter Tryd.func57, Tryd.ntmps57
      go_wp2
      go_ret
      exact ⟨rfl, rfl⟩
    · have hd : decide (c ≤ 90) = false := by simp; omega
      rw [decide_eq_true h, hd]
      go_enter Tryd.func57, Tryd.ntmps57
      go_wp2
      go_ret
      exact ⟨rfl, rfl⟩
  · have hd : decide (65 ≤ c) = false := by simp; omega
    rw [hd]
    go_enter Tryd.func57, Tryd.ntmps57
    go_wp2
    go_ret
    exact ⟨rfl, rfl⟩

set_option maxHeartbeats 1000000 in
theorem isVarC_any (c : Int) (w : World) : Calls Tryd.prog 58 #[.int .u8 c] w fun e w' => e = .returned (.bool (varC c)) ∧ w' = w := by
  unfold varC
  obtain ⟨u, hu⟩ : ∃ u, uppB c = u := ⟨_, rfl⟩
  obtain ⟨g, hg⟩ : ∃ g, digB c = g := ⟨_, rfl⟩
  obtain ⟨m, hm⟩ : ∃ m, (c == 95) = m := ⟨_, rfl⟩
  obtain ⟨n, hn⟩ : ∃ n, (c == 64) = n := ⟨_, rfl⟩
  have HU : Hid (∀ W, Calls Tryd.prog 57 #[.int .u8 c] W fun e w' => e = .returned (.bool u) ∧ w' = W) := fun W => by rw [← hu]; exact isUpper_any c W
  have HG : Hid (∀ W, Calls Tryd.prog 56 #[.int .u8 c] W fun e w' => e = .returned (.bool g) ∧ w' = W) := fun W => by rw [← hg]; exact isDigit_any c W
  rw [hu, hg, hm, hn]
  clear hu hg
  cases u with
  | true =>
    go_enter Tryd.func58, Tryd.ntmps58
    go_wp2_with fail
    refine (HU.out _).mono ?_
    rintro e w1 ⟨rfl, rfl⟩
    go_wp2
    go_ret
    exact ⟨rfl, rfl⟩
  | false =>
    by_cases h : 97 ≤ c
    · by_cases h2 : c ≤ 122
      · rw [decide_eq_true h, decide_eq_true h2]
        go_enter Tryd.func58, Tryd.ntmps58
        go_wp2_with fail
        refine (HU.out _).mono ?_
        rintro e w1 ⟨rfl, rfl⟩
        go_wp2
        go_ret
        exact ⟨rfl, rfl⟩
      · have hd : decide (c ≤ 122) = false := by simp; omega
        rw [decide_eq_true h, hd]
        cases g with
        | true =>
          go_enter Tryd.func58, Tryd.ntmps58
          go_wp2_with fail
          refine (HU.out _).mono ?_
          rintro e w1 ⟨rfl, rfl⟩
          go_wp2_with fail
          refine (HG.out _).mono ?_
          rintro e w1 ⟨rfl, rfl⟩
          go_wp2
          go_ret
          exact ⟨rfl, rfl⟩
        | false =>
          cases m with
          | true =>
            go_enter Tryd.func58, Tryd.ntmps58
            go_wp2_with fail
            refine (HU.out _).mono ?_
            rintro e w1 ⟨rfl, rfl⟩
            go_wp2_with fail
            refine (HG.out _).mono ?_
            rintro e w1 ⟨rfl, rfl⟩
            go_wp2
            go_ret
            exact ⟨rfl, rfl⟩
          | false =>
            go_enter Tryd.func58, Tryd.ntmps58
            go_wp2_with fail
            refine (HU.out _).mono ?_
            rintro e w1 ⟨rfl, rfl⟩
            go_wp2_with fail
            refine (HG.out _).mono ?_
            rintro e w1 ⟨rfl, rfl⟩
            go_wp2
            go_ret
            exact ⟨rfl, rfl⟩
    · have hd : decide (97 ≤ c) = false := by simp; omega
      rw [hd]
      cases g with
      | true =>
        go_enter Tryd.func58, Tryd.ntmps58
        go_wp2_with fail
        refine (HU.out _).mono ?_
        rintro e w1 ⟨rfl, rfl⟩
        go_wp2_with fail
        refine (HG.out _).mono ?_
        rintro e w1 ⟨rfl, rfl⟩
        go_wp2
        go_ret
        exact ⟨rfl, rfl⟩
      | false =>
        cases m with
        | true =>
          go_enter Tryd.func58, Tryd.ntmps58
          go_wp2_with fail
          refine (HU.out _).mono ?_
          rintro e w1 ⟨rfl, rfl⟩
          go_wp2_with fail
          refine (HG.out _).mono ?_
          rintro e w1 ⟨rfl, rfl⟩
          go_wp2
          go_ret
          exact ⟨rfl, rfl⟩
        | false =>
          go_enter Tryd.func58, Tryd.ntmps58
          go_wp2_with fail
          refine (HU.out _).mono ?_
          rintro e w1 ⟨rfl, rfl⟩
          go_wp2_with fail
          refine (HG.out _).mono ?_
          rintro e w1 ⟨rfl, rfl⟩
          go_wp2
          go_ret
          exact ⟨rfl, rfl⟩

set_option maxHeartbeats 1000000 in
set_option maxRecDepth 100000 in
theorem allBytes_any (s : ByteArray) (fid : Nat) (p : Int → Bool) (w : World) (hs : s.size ≤ 9223372036854775807) (eg : ∀ args w, (callFunc fid args).run Tryd.prog w = .ok (.enter fid args) w)
    (hp : ∀ (c : Int) (w : World), Calls Tryd.prog fid #[.int .u8 c] w fun e w' => e = .returned (.bool (p c)) ∧ w' = w) :
    Calls Tryd.prog 55 #[.string s, .func (.func fid) #[] #[]] w fun e w' => e = .returned (.bool (allB p s)) ∧ w' = w := by
  have HP : Hid (∀ (c : Int) (w : World), Calls Tryd.prog fid #[.int .u8 c] w fun e w' => e = .returned (.bool (p c)) ∧ w' = w) := hp
  clear hp
  go_enter Tryd.func55, Tryd.ntmps55
  go_wp2
  go_loopw [8] (fun i wr => ∃ k : Nat, k ≤ s.size ∧ i = .int .i64 k ∧ (∀ j (h : j < s.size), j < k → p (s[j]'h).toNat = true) ∧ wr = w) (fun i _ => s.size - (intOf i).toNat)
  case atStart => exact ⟨0, Nat.zero_le _, rfl, fun j _ hj => by omega, rfl⟩
  case round =>
    obtain ⟨k, hk, rfl, hy, rfl⟩ := hrel
    have HY : Hid (∀ j (h : j < s.size), j < k → p (s[j]'h).toNat = true) := hy
    clear hy
    by_cases hlt : k < s.size
    · obtain ⟨b, hb⟩ : ∃ b, p ((s[k]'hlt).toNat : Int) = b := ⟨_, rfl⟩
      have HB : Hid (p ((s[k]'hlt).toNat : Int) = b) := hb
      have HC : Hid (∀ W, Calls Tryd.prog fid #[.int .u8 ((s[k]'hlt).toNat : Int)] W fun e w' => e = .returned (.bool b) ∧ w' = W) := fun W => by rw [← hb]; exact HP.out _ W
      clear hb
      go_wp2_with fail
      refine (HC.out _).mono ?_
      rintro e w1 ⟨rfl, rfl⟩
      cases b with
      | true =>
        go_wp2
        go_roundw
        case rel => exact ⟨k + 1, by omega, by go_num, fun j h hj => by
          by_cases e : j = k
          · subst e; exact HB.out
          · exact HY.out j h (by omega), trivial⟩
        case measure => simp [intOf]; omega
      | false =>
        go_wp2
        go_ret
        refine ⟨?_, rfl⟩
        have : allB p s = false := decide_eq_false (fun h => by have := h k hlt; rw [HB.out] at this; cases this)
        rw [this]
        rfl
    · have hd : decide ((k : Int) < (s.size : Int)) = false := by simp; omega
      go_wp2
      go_ret
      refine ⟨?_, rfl⟩
      have : allB p s = true := decide_eq_true (fun j h => HY.out j h (by omega))
      rw [this]
      rfl

end Go.Proofs.YtpgjcedonimgnaaDoor
