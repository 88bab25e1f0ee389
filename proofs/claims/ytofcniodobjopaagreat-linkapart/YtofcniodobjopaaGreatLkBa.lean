/- The kit's Pick, the law's among; steps. -/
import Derived.Test.YtofcniodobjopaaGreatLkK
import Derived.Deep.QuietTactic
namespace Go.Proofs.YtofcniodobjopaaGreat
open Go.RowKit Go.Maps

/-- What Pick tells. -/
def pk (x n : Int) : Int := if x.tmod n < 0 then x.tmod n + n else x.tmod n
theorem pk_lt (x : Int) {n : Int} (hn : 0 < n) : 0 ≤ pk x n ∧ pk x n < n := by
  have h1 := Int.tmod_lt_of_pos x hn
  have h2 := Int.lt_tmod_of_pos x hn
  unfold pk
  split <;> omega
set_option maxRecDepth 10000 in
theorem pick_any (x n : Int) (hn : 0 < n) (hn2 : n ≤ 1000) (w : World) : Calls Tryz.prog 23 #[.int .i64 x, .int .i64 n] w fun e w' => e = .returned (.int .i64 (pk x n)) ∧ w' = w := by
  have h1 := Int.tmod_lt_of_pos x hn
  have h2 := Int.lt_tmod_of_pos x hn
  have hd : decide (n < 1) = false := decide_eq_false (by omega)
  have hnz : (n == 0) = false := by simp; omega
  have hnz2 : n ≠ 0 := by omega
  by_cases h : x.tmod n < 0
  · have hp : Hid (pk x n = wrap64 (x.tmod n + n)) := by
      show pk x n = wrap64 (x.tmod n + n)
      unfold pk
      rw [if_pos h]
      unfold wrap64
      omega
    have hd2 : decide (x.tmod n < 0) = true := decide_eq_true h
    clear h1 h2
    go_enter Tryz.func23, Tryz.ntmps23
    go_wp2
    go_ret
    exact ⟨by rw [hp.out]; rfl, rfl⟩
  · have hp : Hid (pk x n = x.tmod n) := by
      show pk x n = x.tmod n
      unfold pk
      rw [if_neg h]
    have hd2 : decide (x.tmod n < 0) = false := decide_eq_false h
    clear h1 h2
    go_enter Tryz.func23, Tryz.ntmps23
    go_wp2
    go_ret
    exact ⟨by rw [hp.out]; rfl, rfl⟩

/-- The steps that came in. -/
def Steps (w : World) (a : Option Addr) (n : Nat) : Prop := ∀ i, i < n → ∃ gl ol op A B r, a = some ⟨gl, ol, none⟩ ∧ gl < w.heap.size ∧ w.cell? ⟨gl, ol + i * 4, none⟩ = some (.int .i64 op) ∧ w.cell? ⟨gl, ol + i * 4 + 1, none⟩ = some (.int .i64 A) ∧ w.cell? ⟨gl, ol + i * 4 + 2, none⟩ = some (.int .i64 B) ∧ w.cell? ⟨gl, ol + i * 4 + 3, none⟩ = some (.int .i64 r) ∧ I64 op ∧ I64 A ∧ I64 B ∧ I64 r
theorem Steps.upd {w w' : World} {a : Option Addr} {n : Nat} (h : Steps w a n) (hu : Upd [] w w') : Steps w' a n := fun i hi => by
  obtain ⟨gl, ol, op, A, B, r, ha, hg, h0, h1, h2, h3, hI⟩ := h i hi
  exact ⟨gl, ol, op, A, B, r, ha, Nat.lt_of_lt_of_le hg hu.size, (hu.cell (p := ⟨gl, ol + i * 4, none⟩) hg (by simp)).trans h0, (hu.cell (p := ⟨gl, ol + i * 4 + 1, none⟩) hg (by simp)).trans h1, (hu.cell (p := ⟨gl, ol + i * 4 + 2, none⟩) hg (by simp)).trans h2, (hu.cell (p := ⟨gl, ol + i * 4 + 3, none⟩) hg (by simp)).trans h3, hI⟩
theorem Steps.le {w : World} {a : Option Addr} {n m : Nat} (h : Steps w a n) (hm : m ≤ n) : Steps w a m := fun i hi => h i (by omega)

/-! ### what stands behind End -/
theorem end_alone {L : LF} {a : Int} {xs : List Int} (h : ∀ x, x ∈ xs ↔ L a x = true) (x : Int) : endL L a xs a x = false := by
  unfold endL
  cases hL : L a x with
  | false => rfl
  | true =>
    have : x ∈ xs := (h x).2 hL
    simp [this]
theorem end_named {M : MF} {a : Int} {rs : List Int} (h : ∀ x, x ∈ rs ↔ nam M a x = true) {r x y : Int} (hr : endM M rs r = some (x, y)) : (x == a) = false ∧ (y == a) = false := by
  unfold endM at hr
  split at hr
  · cases hr
  · rename_i hc
    have h2 : r ∉ rs := by simpa using hc
    rw [h] at h2
    unfold nam at h2
    rw [hr] at h2
    simp at h2
    simpa using h2
theorem endL_sym {L : LF} (hs : ∀ a b, L a b = true → L b a = true ∧ a ≠ b) {a : Int} {xs : List Int} : ∀ x y, endL L a xs x y = true → endL L a xs y x = true := by
  intro x y h
  unfold endL at h ⊢
  have h1 : L x y = true := by
    cases hq : L x y
    · rw [hq] at h; cases h
    · rfl
  rw [(hs x y h1).1]
  rw [h1] at h
  simp only [Bool.true_and] at h ⊢
  rw [Bool.and_comm]
  exact h
theorem Ow.sym {w wr : World} {l n : Nat} {L : LF} {M : MF} (h : Ow w wr l n L M) : ∀ a b, L a b = true → L b a = true ∧ a ≠ b := by
  obtain ⟨P, o, _⟩ := h
  exact o.sym
theorem Ow.keys {w wr : World} {l n : Nat} {L : LF} {M : MF} (h : Ow w wr l n L M) {a b : Int} (hab : L a b = true) : I64 a ∧ I64 b := by
  obtain ⟨P, o, _⟩ := h
  exact o.keys hab

end Go.Proofs.YtofcniodobjopaaGreat
