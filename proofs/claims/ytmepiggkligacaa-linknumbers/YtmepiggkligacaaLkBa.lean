/- The kit's Pick, the law's among; steps. -/
import Derived.Test.YtmepiggkligacaaLkK
import Derived.Deep.QuietTactic
namespace Go.Proofs.Ytmepiggkligacaa
open Go.RowKit Go.Maps

/-- What Pick tells. -/
def pk (x n : Int) : Int := if x.tmod n < 0 then x.tmod n + n else x.tmod n
theorem pk_lt (x : Int) {n : Int} (hn : 0 < n) : 0 ≤ pk x n ∧ pk x n < n := by
  have h1 := Int.tmod_lt_of_pos x hn
  have h2 := Int.lt_tmod_of_pos x hn
  unfold pk
  split <;> omega
set_option maxRecDepth 10000 in
theorem pick_any (x n : Int) (hn : 0 < n) (hn2 : n ≤ 1000) (w : World) : Calls Try.prog 21 #[.int .i64 x, .int .i64 n] w fun e w' => e = .returned (.int .i64 (pk x n)) ∧ w' = w := by
  have h1 := Int.tmod_lt_of_pos x hn
  have h2 := Int.lt_tmod_of_pos x hn
  have hd : decide (n < 1) = false := decide_eq_false (by omega)
  have hnz : (n == 0) = false := by simp; omega
  have hnz2 : n ≠ 0 := by omega
  by_cases h : x.tmod n < 0
  · have hp : Hid (pk x n = wrap64 (x.tmod n + n)) := by
      show pk x n = wrap64 (x.tmod n + n)
      unfold pk
      rw [if_pos h]
      unfold wrap64
      omega
    have hd2 : decide (x.tmod n < 0) = true := decide_eq_true h
    clear h1 h2
    go_enter Try.func21, Try.ntmps21
    go_wp2
    go_ret
    exact ⟨by rw [hp.out]; rfl, rfl⟩
  · have hp : Hid (pk x n = x.tmod n) := by
      show pk x n = x.tmod n
      unfold pk
      rw [if_neg h]
    have hd2 : decide (x.tmod n < 0) = false := decide_eq_false h
    clear h1 h2
    go_enter Try.func21, Try.ntmps21
    go_wp2
    go_ret
    exact ⟨by rw [hp.out]; rfl, rfl⟩

set_option maxHeartbeats 1000000 in
set_option maxRecDepth 10000 in
theorem among_any (w : World) (B : Nat) (v : Value) (xs : List Int) (n : Int) (h1 : IR w B v xs) :
    Calls Try.prog 22 #[v, .int .i64 n] w fun e w' => e = .returned (.bool (xs.contains n)) ∧ w' = w := by
  obtain ⟨p, c, hv⟩ := h1.form
  subst hv
  have H1 : Hid (IR w B (.slice p xs.length c) xs) := h1
  have HL : Hid (xs.length ≤ maxLen) := h1.le
  clear h1
  go_enter Try.func22, Try.ntmps22
  go_wp2
  go_loopw [5] (fun i wr => ∃ k : Nat, k ≤ xs.length ∧ i = .int .i64 k ∧ (xs.take k).contains n = false ∧ wr = w) (fun i _ => xs.length - (intOf i).toNat)
  case atStart => exact ⟨0, Nat.zero_le _, rfl, by simp, rfl⟩
  case round =>
    obtain ⟨k, hk, rfl, ht, hw⟩ := hrel
    rw [hw]
    by_cases hlt : k < xs.length
    · have i1 : (k : Int) < (xs.length : Int) := by omega
      obtain ⟨g, c2, e1, d1⟩ := H1.out.cell hlt
      simp only [Value.slice.injEq] at e1
      obtain ⟨rfl, _, rfl⟩ := e1
      have HT : Hid ((xs.take k).contains n = false) := ht
      have HX : Hid (xs.take (k + 1) = xs.take k ++ [xs[k]] ∧ xs[k] ∈ xs) := ⟨List.take_succ_eq_append_getElem hlt, List.getElem_mem hlt⟩
      have hkm : (k : Int) + 1 ≤ 9223372036854775807 := by have h3 := HL.out; unfold maxLen at h3; omega
      cases hxy : xs[k] == n with
      | true =>
        have HR' : xs.contains n = true := by
          have : xs[k] = n := by simpa using hxy
          rw [← this]
          exact List.contains_iff_mem.2 HX.out.2
        have HR : Hid (xs.contains n = true) := HR'
        clear ht HR'
        go_wp2
        go_ret
        exact ⟨by rw [HR.out]; rfl, rfl⟩
      | false =>
        have HR' : (xs.take (k + 1)).contains n = false := by
          have : xs[k] ≠ n := by simpa using hxy
          rw [HX.out.1, List.contains_append, HT.out]
          simp
          exact fun e => this e.symm
        have HR : Hid ((xs.take (k + 1)).contains n = false) := HR'
        clear ht HR'
        go_wp2
        go_roundw
        case rel => exact ⟨k + 1, by omega, by go_num, HR.out, trivial⟩
        case measure => simp [intOf]; omega
    · have hd : decide ((k : Int) < (xs.length : Int)) = false := by simp; omega
      have hkk : k = xs.length := by omega
      have HR' : xs.contains n = false := by rw [hkk, List.take_length] at ht; exact ht
      have HR : Hid (xs.contains n = false) := HR'
      clear ht HR' hkk
      go_wp2
      go_ret
      exact ⟨by rw [HR.out]; rfl, rfl⟩

/-- The steps that came in. -/
def Steps (w : World) (a : Option Addr) (n : Nat) : Prop := ∀ i, i < n → ∃ gl ol op A B r, a = some ⟨gl, ol, none⟩ ∧ gl < w.heap.size ∧ w.cell? ⟨gl, ol + i * 4, none⟩ = some (.int .i64 op) ∧ w.cell? ⟨gl, ol + i * 4 + 1, none⟩ = some (.int .i64 A) ∧ w.cell? ⟨gl, ol + i * 4 + 2, none⟩ = some (.int .i64 B) ∧ w.cell? ⟨gl, ol + i * 4 + 3, none⟩ = some (.int .i64 r) ∧ I64 op ∧ I64 A ∧ I64 B ∧ I64 r
theorem Steps.upd {w w' : World} {a : Option Addr} {n : Nat} (h : Steps w a n) (hu : Upd [] w w') : Steps w' a n := fun i hi => by
  obtain ⟨gl, ol, op, A, B, r, ha, hg, h0, h1, h2, h3, hI⟩ := h i hi
  exact ⟨gl, ol, op, A, B, r, ha, Nat.lt_of_lt_of_le hg hu.size, (hu.cell (p := ⟨gl, ol + i * 4, none⟩) hg (by simp)).trans h0, (hu.cell (p := ⟨gl, ol + i * 4 + 1, none⟩) hg (by simp)).trans h1, (hu.cell (p := ⟨gl, ol + i * 4 + 2, none⟩) hg (by simp)).trans h2, (hu.cell (p := ⟨gl, ol + i * 4 + 3, none⟩) hg (by simp)).trans h3, hI⟩
theorem Steps.le {w : World} {a : Option Addr} {n m : Nat} (h : Steps w a n) (hm : m ≤ n) : Steps w a m := fun i hi => h i (by omega)

/-! ### what stands behind End -/
theorem end_alone {L : LF} {a : Int} {xs : List Int} (h : ∀ x, x ∈ xs ↔ L a x = true) (x : Int) : endL L a xs a x = false := by
  unfold endL
  cases hL : L a x with
  | false => rfl
  | true =>
    have : x ∈ xs := (h x).2 hL
    simp [this]
theorem end_named {M : MF} {a : Int} {rs : List Int} (h : ∀ x, x ∈ rs ↔ nam M a x = true) {r x y : Int} (hr : endM M rs r = some (x, y)) : (x == a) = false ∧ (y == a) = false := by
  unfold endM at hr
  split at hr
  · cases hr
  · rename_i hc
    have h2 : r ∉ rs := by simpa using hc
    rw [h] at h2
    unfold nam at h2
    rw [hr] at h2
    simp at h2
    simpa using h2
theorem endL_sym {L : LF} (hs : ∀ a b, L a b = true → L b a = true ∧ a ≠ b) {a : Int} {xs : List Int} : ∀ x y, endL L a xs x y = true → endL L a xs y x = true := by
  intro x y h
  unfold endL at h ⊢
  have h1 : L x y = true := by
    cases hq : L x y
    · rw [hq] at h; cases h
    · rfl
  rw [(hs x y h1).1]
  rw [h1] at h
  simp only [Bool.true_and] at h ⊢
  rw [Bool.and_comm]
  exact h
theorem Ow.sym {w wr : World} {l n : Nat} {L : LF} {M : MF} (h : Ow w wr l n L M) : ∀ a b, L a b = true → L b a = true ∧ a ≠ b := by
  obtain ⟨P, o, _⟩ := h
  exact o.sym
theorem Ow.keys {w wr : World} {l n : Nat} {L : LF} {M : MF} (h : Ow w wr l n L M) {a b : Int} (hab : L a b = true) : I64 a ∧ I64 b := by
  obtain ⟨P, o, _⟩ := h
  exact o.keys hab

end Go.Proofs.Ytmepiggkligacaa
