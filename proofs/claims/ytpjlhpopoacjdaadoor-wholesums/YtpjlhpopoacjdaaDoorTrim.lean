/- trimmed, by its contract. -/
import Derived.Test.YtpjlhpopoacjdaaDoorLeaf
namespace Go.Proofs.YtpjlhpopoacjdaaDoor
open Go.RowKit

set_option maxHeartbeats 400000 in
theorem trimmed_core (b o cap : Nat) (L : List Nat) (w : World) (_hn : L.length ≤ 100000) (hcap : L.length ≤ cap) (hcm : cap ≤ 9223372036854775807)
    (hc : ∀ i, i < L.length → w.cell? ⟨b, o + i, none⟩ = some (.int .u32 (L.getD i 0 : Nat))) :
    Calls Tryd.prog 61 #[.slice (some ⟨b, o, none⟩) L.length cap] w fun e w' =>
      w' = w ∧ ∃ n : Nat, n ≤ L.length ∧ (∀ i, n ≤ i → L.getD i 0 = 0) ∧ ((n = 0 ∧ e = .returned (.slice none 0 0)) ∨ (n ≠ 0 ∧ L.getD (n - 1) 0 ≠ 0 ∧ e = .returned (.slice (some ⟨b, o, none⟩) n cap))) := by
  go_enter Tryd.func61, Tryd.ntmps61
  go_wp2
  go_loop [7] (fun i => ∃ k : Nat, k ≤ L.length ∧ i = .int .i64 k ∧ (∀ i, L.length - k ≤ i → L.getD i 0 = 0)) (fun i => L.length - (intOf i).toNat)
  case atStart => exact ⟨0, Nat.zero_le _, rfl, fun i hi => by rw [List.getD_eq_getElem?_getD, List.getElem?_eq_none (by omega)]; rfl⟩
  case round =>
    obtain ⟨k, hk, rfl, hz⟩ := hrel
    have HZ : Hid _ := hz
    clear hz
    by_cases hlt : k < L.length
    · have hcell := hc (L.length - k - 1) (by omega)
      obtain ⟨x, hx⟩ : ∃ x, x = L.getD (L.length - k - 1) 0 := ⟨_, rfl⟩
      rw [← hx] at hcell
      have HX : Hid _ := hx
      clear hx hc
      by_cases h0 : x = 0
      · go_wp2
        go_round
        case rel =>
          refine ⟨k + 1, by omega, by go_num, fun i hi => ?_⟩
          by_cases e : i = L.length - k - 1
          · rw [e, ← HX.out, h0]
          · exact HZ.out i (by omega)
        case measure => simp [intOf]; omega
      · go_wp2
        go_ret
        refine ⟨rfl, L.length - k, by omega, HZ.out, Or.inr ⟨by omega, ?_, ?_⟩⟩
        · intro hh; apply h0; rw [HX.out, List.getD_eq_getElem?_getD]; exact hh
        · simp
    · go_wp2
      go_ret
      exact ⟨rfl, 0, Nat.zero_le _, fun i _ => HZ.out i (by omega), Or.inl ⟨rfl, rfl⟩⟩

set_option maxHeartbeats 400000 in
theorem trimmed_nil (a : Option Addr) (cap : Nat) (w : World) :
    Calls Tryd.prog 61 #[.slice a 0 cap] w fun e w' => w' = w ∧ e = .returned (.slice none 0 0) := by
  go_enter Tryd.func61, Tryd.ntmps61
  go_wp2
  refine wp_loop_rounds 1 ?_
  rw [rounds_succ]
  go_wp2
  go_ret
  exact ⟨rfl, rfl⟩

/-- trimmed: the same limbs without the noughts at the end. -/
theorem trimmed_new (a : Option Addr) (cap : Nat) (L : List Nat) (w : World) (hn : L.length ≤ 100000) (hcap : L.length ≤ cap) (hcm : cap ≤ 9223372036854775807) (HL : At w a L) (hd : Dig L) :
    Calls Tryd.prog 61 #[.slice a L.length cap] w fun e w' =>
      w' = w ∧ ∃ a' c' M, e = .returned (.slice a' M.length c') ∧ Norm M (val L) ∧ At w a' M ∧ M.length ≤ L.length ∧ M.length ≤ c' ∧ c' ≤ 9223372036854775807 ∧ (a' = none ∨ a' = a) := by
  rcases HL with h | ⟨b, o, rfl, hlt, hc⟩
  · subst h
    refine (trimmed_nil a cap w).mono ?_
    rintro e w' ⟨rfl, rfl⟩
    exact ⟨rfl, none, 0, [], rfl, Norm.zero, At.nil _ _, by simp, by simp, by omega, Or.inl rfl⟩
  · refine (trimmed_core b o cap L w hn hcap hcm hc).mono ?_
    rintro e w' ⟨rfl, n, hle, hz, h⟩
    refine ⟨rfl, ?_⟩
    have hN := norm_take hd n hle hz (h.elim (fun h => Or.inl h.1) (fun h => Or.inr h.2.1))
    have hl : (L.take n).length = n := by simp; omega
    rcases h with ⟨h0, rfl⟩ | ⟨h0, _, rfl⟩
    · refine ⟨none, 0, L.take n, by rw [hl, h0], hN, ?_, by omega, by omega, by omega, Or.inl rfl⟩
      rw [h0]; exact Or.inl (by simp)
    · refine ⟨some ⟨b, o, none⟩, cap, L.take n, by rw [hl], hN, ?_, by omega, by omega, by omega, Or.inr rfl⟩
      exact At.take (Or.inr ⟨b, o, rfl, hlt, hc⟩) n

/-- .. -/
theorem trimmed_any (a : Option Addr) (cap : Nat) (L : List Nat) (w : World) (hn : L.length ≤ 100000) (hcap : L.length ≤ cap) (hcm : cap ≤ 9223372036854775807) (HL : At w a L) (hd : Dig L) :
    Calls Tryd.prog 61 #[.slice a L.length cap] w fun e w' =>
      w' = w ∧ ∃ a' c' M, e = .returned (.slice a' M.length c') ∧ Norm M (val L) ∧ At w a' M ∧ M.length ≤ L.length ∧ M.length ≤ c' ∧ c' ≤ 9223372036854775807 := by
  refine (trimmed_new a cap L w hn hcap hcm HL hd).mono ?_
  rintro e w' ⟨h0, a', c', M, h1, h2, h3, h4, h5, h6, _⟩
  exact ⟨h0, a', c', M, h1, h2, h3, h4, h5, h6⟩

end Go.Proofs.YtpjlhpopoacjdaaDoor
