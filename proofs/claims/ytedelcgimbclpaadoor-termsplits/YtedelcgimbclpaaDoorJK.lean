/- The contracts of the smallest functions. -/
import Derived.Test.YtedelcgimbclpaaDoorBase

namespace Go.Proofs.YtedelcgimbclpaaDoor
open Go.RowKit

theorem mul_lt (a b : Nat) (ha : a < 4294967296) (hb : b < 4294967296) : a * b ≤ 18446744065119617025 := by
  have := Nat.mul_le_mul (show a ≤ 4294967295 by omega) (show b ≤ 4294967295 by omega); omega

theorem carry_wrap (x y c d : Nat) (hx : x < 4294967296) (hy : y < 4294967296) (hb : d < 4294967296) (hcc : c < 4294967296) :
    IntKind.u64.wrap ((c : Int) + IntKind.u64.wrap (IntKind.u64.wrap ((d : Int) * (x : Int)) + (y : Int))) = ((c + (d * x + y) : Nat) : Int) := by
  have h := mul_lt d x hb hx
  have e : (d : Int) * (x : Int) = ((d * x : Nat) : Int) := by simp
  rw [e]
  generalize d * x = p at *
  simp only [IntKind.wrap_u64]
  omega

theorem carry_lt (c x y d : Nat) (hc : c < 4294967296) (hx : x < 4294967296) (hy : y < 4294967296) (hd : d < 4294967296) : (c + (d * x + y)) / 4294967296 < 4294967296 := by
  have := mul_lt d x hd hx
  omega

set_option maxHeartbeats 400000 in
theorem dividing_any (D : Int) (d : Nat) (w : World) (hD : D = (d : Int)) :
    Calls Tryd.prog 87 #[.int .u32 D] w fun e w' =>
      e = .returned (.func (.func 96) #[] #[.pointer (some ⟨w.heap.size + 1, 0, none⟩), .pointer (some ⟨w.heap.size, 0, none⟩)]) ∧
      One w' (w.heap.size + 1) .u64 113 0 ∧ One w' w.heap.size .u32 43 d ∧ Upd [] w w' := by
  subst hD
  go_enter Tryd.func87, Tryd.ntmps87
  go_wp2
  go_ret
  exact ⟨rfl, heap_alloc2_new _ _ _, heap_alloc2_old _ _ _, ((Upd.refl _ _).alloc _).alloc _⟩

/-- The limb and the borrow of x - y - c. -/
def bDig (x y c : Nat) : Nat := if x < y + c then x + 4294967296 - (y + c) else x - (y + c)
def bOut (x y c : Nat) : Nat := if x < y + c then 1 else 0
theorem bOut_le (x y c : Nat) : bOut x y c ≤ 1 := by unfold bOut; split <;> omega
theorem bDig_lt (x y c : Nat) (hx : x < 4294967296) (hy : y < 4294967296) (hc : c ≤ 1) : bDig x y c < 4294967296 := by unfold bDig; split <;> omega
theorem bDig_eq (x y c : Nat) (hy : y < 4294967296) (hc : c ≤ 1) : bDig x y c + (y + c) = x + 4294967296 * bOut x y c := by unfold bDig bOut; split <;> omega

theorem borrow_wrap1 (x y c : Nat) (hx : x < 4294967296) (hy : y < 4294967296) (hc : c ≤ 1) : IntKind.u64.wrap (IntKind.u64.wrap ((x : Int) - (y : Int)) - (c : Int)) % 4294967296 = (bDig x y c : Nat) := by
  unfold bDig; simp only [IntKind.wrap_u64]; split <;> omega
theorem borrow_wrap2 (x y c : Nat) (hx : x < 4294967296) (hy : y < 4294967296) (hc : c ≤ 1) : IntKind.u64.wrap (IntKind.u64.wrap ((x : Int) - (y : Int)) - (c : Int)) / 9223372036854775808 = (bOut x y c : Nat) := by
  unfold bOut; simp only [IntKind.wrap_u64]; split <;> omega

theorem or_shift (c x : Nat) (hc : c < 4294967296) (hx : x < 4294967296) : bits BinOp.or IntKind.u64 ((c : Int) * 4294967296) (x : Int) = ((c * 4294967296 + x : Nat) : Int) := by
  have e : (c : Int) * 4294967296 = ((c * 4294967296 : Nat) : Int) := by simp
  rw [e, bits_or_u64_nat _ _ (by omega) (by omega)]
  have h := Nat.shiftLeft_add_eq_or_of_lt (i := 32) (b := x) (by omega) c
  rw [Nat.shiftLeft_eq] at h
  rw [show c * 4294967296 = c * 2 ^ 32 from rfl, h]

theorem quo_lt (x c d : Nat) (hx : x < 4294967296) (hcc : c < d) : (c * 4294967296 + x) / d < 4294967296 := by
  rw [Nat.div_lt_iff_lt_mul (by omega)]
  have : (c + 1) * 4294967296 ≤ d * 4294967296 := Nat.mul_le_mul_right _ (by omega)
  omega

end Go.Proofs.YtedelcgimbclpaaDoor

/- trimmed, by its contract. -/
namespace Go.Proofs.YtedelcgimbclpaaDoor
open Go.RowKit

set_option maxHeartbeats 400000 in
theorem trimmed_core (b o cap : Nat) (L : List Nat) (w : World) (_hn : L.length ≤ 100000) (hcap : L.length ≤ cap) (hcm : cap ≤ 9223372036854775807)
    (hc : ∀ i, i < L.length → w.cell? ⟨b, o + i, none⟩ = some (.int .u32 (L.getD i 0 : Nat))) :
    Calls Tryd.prog 88 #[.slice (some ⟨b, o, none⟩) L.length cap] w fun e w' =>
      w' = w ∧ ∃ n : Nat, n ≤ L.length ∧ (∀ i, n ≤ i → L.getD i 0 = 0) ∧ ((n = 0 ∧ e = .returned (.slice none 0 0)) ∨ (n ≠ 0 ∧ L.getD (n - 1) 0 ≠ 0 ∧ e = .returned (.slice (some ⟨b, o, none⟩) n cap))) := by
  go_enter Tryd.func88, Tryd.ntmps88
  go_wp2
  go_loop [7] (fun i => ∃ k : Nat, k ≤ L.length ∧ i = .int .i64 k ∧ (∀ i, L.length - k ≤ i → L.getD i 0 = 0)) (fun i => L.length - (intOf i).toNat)
  case atStart => exact ⟨0, Nat.zero_le _, rfl, fun i hi => by rw [List.getD_eq_getElem?_getD, List.getElem?_eq_none (by omega)]; rfl⟩
  case round =>
    obtain ⟨k, hk, rfl, hz⟩ := hrel
    have HZ : Hid _ := hz
    clear hz
    by_cases hlt : k < L.length
    · have hcell := hc (L.length - k - 1) (by omega)
      obtain ⟨x, hx⟩ : ∃ x, x = L.getD (L.length - k - 1) 0 := ⟨_, rfl⟩
      rw [← hx] at hcell
      have HX : Hid _ := hx
      clear hx hc
      by_cases h0 : x = 0
      · go_wp2
        go_round
        case rel =>
          refine ⟨k + 1, by omega, by go_num, fun i hi => ?_⟩
          by_cases e : i = L.length - k - 1
          · rw [e, ← HX.out, h0]
          · exact HZ.out i (by omega)
        case measure => simp [intOf]; omega
      · go_wp2
        go_ret
        refine ⟨rfl, L.length - k, by omega, HZ.out, Or.inr ⟨by omega, ?_, ?_⟩⟩
        · intro hh; apply h0; rw [HX.out, List.getD_eq_getElem?_getD]; exact hh
        · simp
    · go_wp2
      go_ret
      exact ⟨rfl, 0, Nat.zero_le _, fun i _ => HZ.out i (by omega), Or.inl ⟨rfl, rfl⟩⟩

set_option maxHeartbeats 400000 in
theorem trimmed_nil (a : Option Addr) (cap : Nat) (w : World) :
    Calls Tryd.prog 88 #[.slice a 0 cap] w fun e w' => w' = w ∧ e = .returned (.slice none 0 0) := by
  go_enter Tryd.func88, Tryd.ntmps88
  go_wp2
  refine wp_loop_rounds 1 ?_
  rw [rounds_succ]
  go_wp2
  go_ret
  exact ⟨rfl, rfl⟩

/-- trimmed: the same limbs without the noughts at the end. -/
theorem trimmed_new (a : Option Addr) (cap : Nat) (L : List Nat) (w : World) (hn : L.length ≤ 100000) (hcap : L.length ≤ cap) (hcm : cap ≤ 9223372036854775807) (HL : At w a L) (hd : Dig L) :
    Calls Tryd.prog 88 #[.slice a L.length cap] w fun e w' =>
      w' = w ∧ ∃ a' c' M, e = .returned (.slice a' M.length c') ∧ Norm M (val L) ∧ At w a' M ∧ M.length ≤ L.length ∧ M.length ≤ c' ∧ c' ≤ 9223372036854775807 ∧ (a' = none ∨ a' = a) := by
  rcases HL with h | ⟨b, o, rfl, hlt, hc⟩
  · subst h
    refine (trimmed_nil a cap w).mono ?_
    rintro e w' ⟨rfl, rfl⟩
    exact ⟨rfl, none, 0, [], rfl, Norm.zero, At.nil _ _, by simp, by simp, by omega, Or.inl rfl⟩
  · refine (trimmed_core b o cap L w hn hcap hcm hc).mono ?_
    rintro e w' ⟨rfl, n, hle, hz, h⟩
    refine ⟨rfl, ?_⟩
    have hN := norm_take hd n hle hz (h.elim (fun h => Or.inl h.1) (fun h => Or.inr h.2.1))
    have hl : (L.take n).length = n := by simp; omega
    rcases h with ⟨h0, rfl⟩ | ⟨h0, _, rfl⟩
    · refine ⟨none, 0, L.take n, by rw [hl, h0], hN, ?_, by omega, by omega, by omega, Or.inl rfl⟩
      rw [h0]; exact Or.inl (by simp)
    · refine ⟨some ⟨b, o, none⟩, cap, L.take n, by rw [hl], hN, ?_, by omega, by omega, by omega, Or.inr rfl⟩
      exact At.take (Or.inr ⟨b, o, rfl, hlt, hc⟩) n

/-- .. -/
theorem trimmed_any (a : Option Addr) (cap : Nat) (L : List Nat) (w : World) (hn : L.length ≤ 100000) (hcap : L.length ≤ cap) (hcm : cap ≤ 9223372036854775807) (HL : At w a L) (hd : Dig L) :
    Calls Tryd.prog 88 #[.slice a L.length cap] w fun e w' =>
      w' = w ∧ ∃ a' c' M, e = .returned (.slice a' M.length c') ∧ Norm M (val L) ∧ At w a' M ∧ M.length ≤ L.length ∧ M.length ≤ c' ∧ c' ≤ 9223372036854775807 := by
  refine (trimmed_new a cap L w hn hcap hcm HL hd).mono ?_
  rintro e w' ⟨h0, a', c', M, h1, h2, h3, h4, h5, h6, _⟩
  exact ⟨h0, a', c', M, h1, h2, h3, h4, h5, h6⟩

end Go.Proofs.YtedelcgimbclpaaDoor
