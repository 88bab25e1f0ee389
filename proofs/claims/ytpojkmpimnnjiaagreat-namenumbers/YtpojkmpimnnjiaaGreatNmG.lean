/- The kit's Pick, the law's great; steps. -/
import Derived.Test.YtpojkmpimnnjiaaGreatNmU
import Derived.Deep.QuietTactic
namespace Go.Proofs.YtpojkmpimnnjiaaGreat
open Go.RowKit Go.Maps

theorem i64_small {x : Int} (h1 : -9223372036854775808 ≤ x) (h2 : x ≤ 9223372036854775807) : I64 x := by
  show (decide ((-9223372036854775808 : Int) ≤ x) && decide (x ≤ (9223372036854775807 : Int))) = true
  simp [h1, h2]
theorem i64_le {x : Int} (h : I64 x) : -9223372036854775808 ≤ x ∧ x ≤ 9223372036854775807 := by
  have h' : (decide ((-9223372036854775808 : Int) ≤ x) && decide (x ≤ (9223372036854775807 : Int))) = true := h
  simpa using h'

/-- What Pick tells. -/
def pk (x n : Int) : Int := if x.tmod n < 0 then x.tmod n + n else x.tmod n
theorem pk_lt (x : Int) {n : Int} (hn : 0 < n) : 0 ≤ pk x n ∧ pk x n < n := by
  have h1 := Int.tmod_lt_of_pos x hn
  have h2 := Int.lt_tmod_of_pos x hn
  unfold pk
  split <;> omega
set_option maxRecDepth 10000 in
theorem pick_any (x n : Int) (hn : 0 < n) (hn2 : n ≤ 1000) (w : World) : Calls Tryz.prog 16 #[.int .i64 x, .int .i64 n] w fun e w' => e = .returned (.int .i64 (pk x n)) ∧ w' = w := by
  have h1 := Int.tmod_lt_of_pos x hn
  have h2 := Int.lt_tmod_of_pos x hn
  have hd : decide (n < 1) = false := decide_eq_false (by omega)
  have hnz : (n == 0) = false := by simp; omega
  have hnz2 : n ≠ 0 := by omega
  by_cases h : x.tmod n < 0
  · have hp : Hid (pk x n = wrap64 (x.tmod n + n)) := by
      show pk x n = wrap64 (x.tmod n + n)
      unfold pk
      rw [if_pos h]
      unfold wrap64
      omega
    have hd2 : decide (x.tmod n < 0) = true := decide_eq_true h
    clear h1 h2
    go_enter Tryz.func16, Tryz.ntmps16
    go_wp2
    go_ret
    exact ⟨by rw [hp.out]; rfl, rfl⟩
  · have hp : Hid (pk x n = x.tmod n) := by
      show pk x n = x.tmod n
      unfold pk
      rw [if_neg h]
    have hd2 : decide (x.tmod n < 0) = false := decide_eq_false h
    clear h1 h2
    go_enter Tryz.func16, Tryz.ntmps16
    go_wp2
    go_ret
    exact ⟨by rw [hp.out]; rfl, rfl⟩

/-- The steps that came in. -/
def Steps (w : World) (a : Option Addr) (n : Nat) : Prop := ∀ i, i < n → ∃ gl ol op P s, a = some ⟨gl, ol, none⟩ ∧ gl < w.heap.size ∧ w.cell? ⟨gl, ol + i * 3, none⟩ = some (.int .i64 op) ∧ w.cell? ⟨gl, ol + i * 3 + 1, none⟩ = some (.int .i64 P) ∧ w.cell? ⟨gl, ol + i * 3 + 2, none⟩ = some (encStr s) ∧ I64 op ∧ I64 P ∧ okB s
theorem Steps.upd {w w' : World} {a : Option Addr} {n : Nat} (h : Steps w a n) (hu : Upd [] w w') : Steps w' a n := fun i hi => by
  obtain ⟨gl, ol, op, P, s, ha, hg, h0, h1, h2, hI⟩ := h i hi
  exact ⟨gl, ol, op, P, s, ha, Nat.lt_of_lt_of_le hg hu.size, (hu.cell (p := ⟨gl, ol + i * 3, none⟩) hg (by simp)).trans h0, (hu.cell (p := ⟨gl, ol + i * 3 + 1, none⟩) hg (by simp)).trans h1, (hu.cell (p := ⟨gl, ol + i * 3 + 2, none⟩) hg (by simp)).trans h2, hI⟩
theorem Steps.le {w : World} {a : Option Addr} {n m : Nat} (h : Steps w a n) (hm : m ≤ n) : Steps w a m := fun i hi => h i (by omega)

/-- No name of the first k steps is long. -/
def Short (w : World) (a : Option Addr) (k : Nat) (N : Int) : Prop := ∀ i, i < k → ∀ gl ol s, a = some ⟨gl, ol, none⟩ → w.cell? ⟨gl, ol + i * 3 + 2, none⟩ = some (encStr s) → ((s.length : Int) / 10 ≤ N)

/-- What great tells. -/
def GreatQ (w : World) (a : Option Addr) (n : Nat) (e : Ending) (w' : World) : Prop := ∃ b, e = .returned (.bool b) ∧ Upd [] w w' ∧ (b = false → Short w a n 10000)

set_option maxHeartbeats 1000000 in
set_option maxRecDepth 10000 in
theorem great_any (w : World) (a : Option Addr) (n c : Nat) (hn : n ≤ 9223372036854775806) (h : Steps w a n) :
    Calls Tryz.prog 5 #[.slice a n c] w fun e w' => GreatQ w a n e w' := by
  have H : Hid (Steps w a n) := h
  clear h
  go_enter Tryz.func5, Tryz.ntmps5
  go_wp2
  go_loopw [3, 4] (fun s2 s3 wr => ∃ (i : Nat) (N : Int), i ≤ n ∧ s3 = .int .i64 i ∧ s2 = .int .i64 N ∧ 0 ≤ N ∧ N ≤ 1000000000000000000 ∧ Short w a i N ∧ Upd [] w wr) (fun _ s3 _ => n - (intOf s3).toNat)
  case atStart => exact ⟨0, 0, Nat.zero_le _, rfl, rfl, Int.le_refl _, by omega, fun i hi => by omega, Upd.refl _ _⟩
  case round =>
    obtain ⟨i, N, hi, rfl, rfl, hN0, hN1, hS, hU⟩ := hrel
    by_cases hin : i < n
    · have i1 : (i : Int) < (n : Int) := by omega
      have d1 : decide ((i : Int) < (n : Int)) = true := decide_eq_true i1
      by_cases hN : N ≤ 10000
      · have d2 : decide (N ≤ 10000) = true := decide_eq_true hN
        obtain ⟨gl, ol, op, P, s, hae, hgl, k0, k1, k2, hI⟩ := (H.out.upd hU) i hin
        subst hae
        have HS : Hid (Short w (some ⟨gl, ol, none⟩) i N ∧ Upd [] w wr) := ⟨hS, hU⟩
        obtain ⟨D, hD2⟩ : ∃ D : Int, D = (s.length : Int) / 10 := ⟨_, rfl⟩
        have hDb : 0 ≤ D ∧ D ≤ 922337203685477580 := by
          have := hI.2.2
          unfold okB maxLen at this
          omega
        have W23 : Hid (wrap64 (N + 1 + wrap64 ((s.length : Int) / 10)) = N + 1 + D) := by
          rw [← hD2]
          show wrap64 (N + 1 + wrap64 D) = N + 1 + D
          have : wrap64 D = D := by unfold wrap64; omega
          rw [this]
          unfold wrap64; omega
        have HS2 : Hid (Short w (some ⟨gl, ol, none⟩) (i + 1) (N + 1 + D)) := by
          intro j hj gl' ol' s' he hc
          by_cases hji : j < i
          · have := HS.out.1 j hji gl' ol' s' he hc
            omega
          · obtain rfl : j = i := by omega
            cases he
            have hc2 := (HS.out.2.cell (p := ⟨gl, ol + j * 3 + 2, none⟩) (by have := World.block_lt_of_cell? _ _ hc; exact this) (by simp)).trans hc
            rw [k2] at hc2
            have : s = s' := encStr_inj (by simpa using hc2)
            subst this
            omega
        clear hS hU hgl k0 k1 hI hD2
        go_wp2
        go_roundw
        case rel => exact ⟨i + 1, N + 1 + D, by omega, by go_num, by rw [W23.out], by omega, by omega, HS2.out, HS.out.2⟩
        case measure => simp [intOf]; omega
      · have d2 : decide (N ≤ 10000) = false := decide_eq_false hN
        have d3 : decide (10000 < N) = true := decide_eq_true (by omega)
        have HU : Hid (Upd [] w wr) := hU
        clear hS hU
        go_wp2
        go_ret
        exact ⟨true, rfl, HU.out, fun h => by cases h⟩
    · have d1 : decide ((i : Int) < (n : Int)) = false := decide_eq_false (by omega)
      obtain rfl : i = n := by omega
      have HS : Hid (Short w a i N ∧ Upd [] w wr) := ⟨hS, hU⟩
      clear hS hU
      by_cases hN : 10000 < N
      · have d3 : decide (10000 < N) = true := decide_eq_true hN
        go_wp2
        go_ret
        exact ⟨true, rfl, HS.out.2, fun h => by cases h⟩
      · have d3 : decide (10000 < N) = false := decide_eq_false hN
        go_wp2
        go_ret
        exact ⟨false, rfl, HS.out.2, fun _ j hj gl ol s he hc => Int.le_trans (HS.out.1 j hj gl ol s he hc) (by omega)⟩

end Go.Proofs.YtpojkmpimnnjiaaGreat
