/- The small functions of package term: bare, rightTail, ownSize, by their contracts. -/
import Derived.Test.YtnpocmhaoaigfaaGreatDoorJAB
import Derived.Test.YtnpocmhaoaigfaaGreatDoorAddT
namespace Go.Proofs.YtnpocmhaoaigfaaGreatDoor
open Go.RowKit

/-- Has it nothing but its kind? -/
def bareB (neg : Bool) (nl : Nat) (s : ByteArray) (num : Int) (ni nt : Nat) : Bool := !neg && decide (nl = 0) && decide (s.size = 0) && (num == 0) && decide (ni = 0) && decide (nt = 0)

theorem empty_of (s : ByteArray) : s.toList.isEmpty = decide (s.size = 0) := by
  by_cases h : s.size = 0
  · rw [bz_empty h, ← decide_eq_emptyBytes]; simp
  · rw [← decide_eq_emptyBytes]
    simp only [h, decide_false, decide_eq_false_iff_not]
    intro e; subst e; simp at h

set_option maxHeartbeats 2000000 in
set_option maxRecDepth 100000 in
theorem bare_any (k num : Int) (neg : Bool) (s : ByteArray) (a ai at' : Option Addr) (nl c ni ci nt ct : Nat) (w : World) (hn2 : nl ≤ 9223372036854775807) (hni : ni ≤ 9223372036854775807) (hnt : nt ≤ 9223372036854775807) :
    Calls Tryz.prog 58 #[.agg #[.int .u8 k, .bool neg, .slice a nl c, .string s, .int .i64 num, .slice ai ni ci, .slice at' nt ct]] w fun e w' => e = .returned (.bool (bareB neg nl s num ni nt)) ∧ Upd [] w w' := by
  unfold bareB
  have hs : Hid (s.toList.isEmpty = decide (s.size = 0)) := empty_of s
  cases neg
  · by_cases hl : nl = 0
    · subst hl
      cases hs2 : s.toList.isEmpty
      · go_enter Tryz.func58, Tryz.ntmps58
        go_wp2
        go_ret
        exact ⟨by rw [← hs.out, hs2]; rfl, (Upd.refl [] w).alloc _⟩
      · by_cases hnum : num = 0
        · subst hnum
          by_cases hi : ni = 0
          · subst hi
            by_cases ht : nt = 0
            · subst ht
              go_enter Tryz.func58, Tryz.ntmps58
              go_wp2
              go_ret
              exact ⟨by rw [← hs.out, hs2]; rfl, (Upd.refl [] w).alloc _⟩
            · have ht2 : ((nt : Int) == 0) = false := by simp [ht]
              go_enter Tryz.func58, Tryz.ntmps58
              go_wp2
              go_ret
              exact ⟨by simp [ht], (Upd.refl [] w).alloc _⟩
          · have hi2 : ((ni : Int) == 0) = false := by simp [hi]
            go_enter Tryz.func58, Tryz.ntmps58
            go_wp2
            go_ret
            exact ⟨by simp [hi], (Upd.refl [] w).alloc _⟩
        · have hnum2 : (num == 0) = false := by simp [hnum]
          go_enter Tryz.func58, Tryz.ntmps58
          go_wp2
          go_ret
          exact ⟨by simp [hnum2], (Upd.refl [] w).alloc _⟩
    · have hl2 : ((nl : Int) == 0) = false := by simp [hl]
      go_enter Tryz.func58, Tryz.ntmps58
      go_wp2
      go_ret
      exact ⟨by simp [hl], (Upd.refl [] w).alloc _⟩
  · go_enter Tryz.func58, Tryz.ntmps58
    go_wp2
    go_ret
    exact ⟨by simp, (Upd.refl [] w).alloc _⟩

set_option maxHeartbeats 2000000 in
set_option maxRecDepth 100000 in
theorem ownSize_any (k num : Int) (neg : Bool) (s : ByteArray) (a ai at' : Option Addr) (nl c ni ci nt ct : Nat) (w : World) (hn2 : nl ≤ 35184372088800) (hni : ni ≤ 35184372088800) :
    Calls Tryz.prog 34 #[.agg #[.int .u8 k, .bool neg, .slice a nl c, .string s, .int .i64 num, .slice ai ni ci, .slice at' nt ct]] w fun e w' => e = .returned (.int .i64 (ownZ k nl ni : Nat)) ∧ Upd [] w w' := by
  unfold ownZ
  by_cases h1 : k = 1
  · subst h1
    go_enter Tryz.func34, Tryz.ntmps34
    go_wp2
    go_ret
    exact ⟨by simp, (Upd.refl [] w).alloc _⟩
  · have h1' : (k == 1) = false := by simp [h1]
    rw [if_neg h1]
    by_cases h4 : k = 4
    · subst h4
      go_enter Tryz.func34, Tryz.ntmps34
      go_wp2
      go_ret
      exact ⟨by simp, (Upd.refl [] w).alloc _⟩
    · have h4' : (k == 4) = false := by simp [h4]
      rw [if_neg h4]
      by_cases h7 : k = 7
      · subst h7
        go_enter Tryz.func34, Tryz.ntmps34
        go_wp2
        go_ret
        exact ⟨by simp, (Upd.refl [] w).alloc _⟩
      · have h7' : (k == 7) = false := by simp [h7]
        rw [if_neg h7]
        go_enter Tryz.func34, Tryz.ntmps34
        go_wp2
        go_ret
        exact ⟨by simp, (Upd.refl [] w).alloc _⟩

/-- What stands behind a list. -/
def tailB (ni : Nat) (T : List Tm) : Bool := match T with | [] => true | [u] => decide (0 < ni) && decide (u.kd ≠ 7) | _ => false

theorem In.kd {w : World} {d : Nat} {cs : List Value} {t : Tm} (h : In w d cs t) : cs[0]? = some (.int .u8 t.kd) := by
  cases d with
  | zero => exact h.elim
  | succ d =>
    cases t
    obtain ⟨_, _, _, _, _, _, rfl, _⟩ := h
    rfl

set_option maxHeartbeats 2000000 in
set_option maxRecDepth 100000 in
theorem rightTail_any (k num : Int) (neg : Bool) (s : ByteArray) (a ai at' : Option Addr) (nl c ni ci ct d : Nat) (T : List Tm) (w : World) (hni : ni ≤ 35184372088800) (hT : T.length ≤ 35184372088800) (HT : RowAt (In w d) w at' T) :
    Calls Tryz.prog 59 #[.agg #[.int .u8 k, .bool neg, .slice a nl c, .string s, .int .i64 num, .slice ai ni ci, .slice at' T.length ct]] w fun e w' => e = .returned (.bool (tailB ni T)) ∧ Upd [] w w' := by
  match T, hT, HT with
  | [], _, _ =>
    simp only [List.length_nil]
    go_enter Tryz.func59, Tryz.ntmps59
    go_wp2
    go_ret
    exact ⟨rfl, (Upd.refl [] w).alloc _⟩
  | [u], _, HT =>
    simp only [List.length_cons, List.length_nil, Nat.zero_add]
    rcases HT with h | ⟨b, o, rfl, hlt, hc⟩
    · cases h
    obtain ⟨cs, h7, hcell, hin⟩ := hc 0 (by simp)
    have hk : w.cell? ⟨b, o, none⟩ = some (.int .u8 u.kd) := by
      have := hcell 0 (by omega)
      rw [hin.kd] at this
      simpa using this
    clear hc hcell hin
    have hk2 : (w.alloc (.cells #[.int .u8 k, .bool neg, .slice a nl c, .string s, .int .i64 num, .slice ai ni ci, .slice (some ⟨b, o, none⟩) 1 ct] 26)).cell? ⟨b, o, none⟩ = some (.int .u8 u.kd) := (((Upd.refl [] w).alloc _).cell (p := ⟨b, o, none⟩) hlt (by simp)).trans hk
    by_cases hi : ni = 0
    · subst hi
      go_enter Tryz.func59, Tryz.ntmps59
      go_wp2
      go_ret
      exact ⟨rfl, (Upd.refl [] w).alloc _⟩
    · have hi2 : (0 : Int) < (ni : Int) := by omega
      obtain ⟨q, hq⟩ : ∃ q, q = u.kd := ⟨_, rfl⟩
      have e : tailB ni [u] = (q != 7) := by
        unfold tailB
        rw [hq]
        simp only [show 0 < ni by omega, decide_true, Bool.true_and]
        rw [Bool.eq_iff_iff]; simp
      rw [e]
      rw [← hq] at hk2
      clear e hq hk
      go_enter Tryz.func59, Tryz.ntmps59
      go_wp2
      go_ret
      exact ⟨rfl, (Upd.refl [] w).alloc _⟩
  | x :: y :: r, hT, _ =>
    have e0 : (((x :: y :: r).length : Int) == 0) = false := by simp; omega
    have e1 : (((x :: y :: r).length : Int) == 1) = false := by simp; omega
    obtain ⟨n, hn⟩ : ∃ n, n = (x :: y :: r).length := ⟨_, rfl⟩
    rw [← hn] at e0 e1 hT ⊢
    clear hn
    go_enter Tryz.func59, Tryz.ntmps59
    go_wp2
    go_ret
    exact ⟨rfl, (Upd.refl [] w).alloc _⟩

end Go.Proofs.YtnpocmhaoaigfaaGreatDoor
