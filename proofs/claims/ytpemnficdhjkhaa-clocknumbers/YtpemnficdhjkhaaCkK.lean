/- The kit's SameInts and Pick; rows laid at once. -/
import Derived.Test.YtpemnficdhjkhaaCkW
import Derived.Deep.QuietTactic
import Derived.BigQuiet
namespace Go.Proofs.Ytpemnficdhjkhaa
open Go.RowKit Go.Maps

theorem i64_small {x : Int} (h1 : -9223372036854775808 ≤ x) (h2 : x ≤ 9223372036854775807) : I64 x := by
  show (decide ((-9223372036854775808 : Int) ≤ x) && decide (x ≤ (9223372036854775807 : Int))) = true
  simp [h1, h2]
theorem i64_le {x : Int} (h : I64 x) : -9223372036854775808 ≤ x ∧ x ≤ 9223372036854775807 := by
  have h' : (decide ((-9223372036854775808 : Int) ≤ x) && decide (x ≤ (9223372036854775807 : Int))) = true := h
  simpa using h'

/-- What Pick tells. -/
def pk (x n : Int) : Int := if x.tmod n < 0 then x.tmod n + n else x.tmod n
theorem pk_lt (x : Int) {n : Int} (hn : 0 < n) : 0 ≤ pk x n ∧ pk x n < n := by
  have h1 := Int.tmod_lt_of_pos x hn
  have h2 := Int.lt_tmod_of_pos x hn
  unfold pk
  split <;> omega
set_option maxRecDepth 10000 in
theorem pick_any (x n : Int) (hn : 0 < n) (hn2 : n ≤ 1000) (w : World) : Calls Try.prog 16 #[.int .i64 x, .int .i64 n] w fun e w' => e = .returned (.int .i64 (pk x n)) ∧ w' = w := by
  have h1 := Int.tmod_lt_of_pos x hn
  have h2 := Int.lt_tmod_of_pos x hn
  have hd : decide (n < 1) = false := decide_eq_false (by omega)
  have hnz : (n == 0) = false := by simp; omega
  have hnz2 : n ≠ 0 := by omega
  by_cases h : x.tmod n < 0
  · have hp : Hid (pk x n = wrap64 (x.tmod n + n)) := by
      show pk x n = wrap64 (x.tmod n + n)
      unfold pk
      rw [if_pos h]
      unfold wrap64
      omega
    have hd2 : decide (x.tmod n < 0) = true := decide_eq_true h
    clear h1 h2
    go_enter Try.func16, Try.ntmps16
    go_wp2
    go_ret
    exact ⟨by rw [hp.out]; rfl, rfl⟩
  · have hp : Hid (pk x n = x.tmod n) := by
      show pk x n = x.tmod n
      unfold pk
      rw [if_neg h]
    have hd2 : decide (x.tmod n < 0) = false := decide_eq_false h
    clear h1 h2
    go_enter Try.func16, Try.ntmps16
    go_wp2
    go_ret
    exact ⟨by rw [hp.out]; rfl, rfl⟩

set_option maxHeartbeats 1000000 in
set_option maxRecDepth 10000 in
theorem sameInts_any (w : World) (B B' : Nat) (v u : Value) (xs ys : List Int) (h1 : AR w B v xs) (h2 : AR w B' u ys) :
    Calls Try.prog 8 #[v, u] w fun e w' => e = .returned (.bool (xs == ys)) ∧ Upd [] w w' := by
  obtain ⟨p, c, hv⟩ := h1.form
  obtain ⟨p', c', hu⟩ := h2.form
  subst hv
  subst hu
  have hx := h1.le
  have H1 : Hid (AR w B (.slice p xs.length c) xs) := h1
  have H2 : Hid (AR w B' (.slice p' ys.length c') ys) := h2
  have HL : Hid (xs.length ≤ maxLen) := hx
  clear h1 h2 hx
  by_cases hl : xs.length = ys.length
  · have hne : ((xs.length : Int) != (ys.length : Int)) = false := by simp [hl]
    have HE : Hid (xs.length = ys.length) := hl
    clear hl
    go_enter Try.func8, Try.ntmps8
    go_wp2
    go_loopw [5] (fun i wr => ∃ k : Nat, k ≤ xs.length ∧ i = .int .i64 k ∧ xs.take k = ys.take k ∧ Upd [] w wr) (fun i _ => xs.length - (intOf i).toNat)
    case atStart => exact ⟨0, Nat.zero_le _, rfl, by simp, Upd.refl _ _⟩
    case round =>
      obtain ⟨k, hk, rfl, ht, hU⟩ := hrel
      by_cases hlt : k < xs.length
      · have i1 : (k : Int) < (xs.length : Int) := by omega
        have hlt2 : k < ys.length := by have := HE.out; omega
        have i2 : (k : Int) < (ys.length : Int) := by omega
        obtain ⟨g, o1, c2, e1, d1⟩ := (H1.out.upd hU).cell hlt
        obtain ⟨g', o2, c3, e2, d2⟩ := (H2.out.upd hU).cell hlt2
        simp only [Value.slice.injEq] at e1 e2
        obtain ⟨rfl, _, rfl⟩ := e1
        obtain ⟨rfl, _, rfl⟩ := e2
        rw [List.getD_eq_getElem?_getD, List.getElem?_eq_getElem hlt, Option.getD_some] at d1
        rw [List.getD_eq_getElem?_getD, List.getElem?_eq_getElem hlt2, Option.getD_some] at d2
        have HT : Hid (xs.take k = ys.take k ∧ Upd [] w wr) := ⟨ht, hU⟩
        have HX : Hid (xs.take (k + 1) = xs.take k ++ [xs[k]] ∧ ys.take (k + 1) = ys.take k ++ [ys[k]]) := ⟨List.take_succ_eq_append_getElem hlt, List.take_succ_eq_append_getElem hlt2⟩
        have hkm : (k : Int) + 1 ≤ 9223372036854775807 := by have h3 := HL.out; unfold maxLen at h3; omega
        cases hxy : xs[k] == ys[k] with
        | true =>
          have hn : (xs[k] != ys[k]) = false := by unfold bne; rw [hxy]; rfl
          have HY' : xs[k] = ys[k] := by simpa using hxy
          have HY : Hid (xs[k] = ys[k]) := HY'
          clear HY'
          clear ht hU hxy
          go_wp2
          go_region
          all_goals
            go_wp2
            go_roundw
            case rel => exact ⟨k + 1, by omega, by go_num, by rw [HX.out.1, HX.out.2, HT.out.1, HY.out], HT.out.2.drew⟩
            case measure => simp [intOf]; omega
        | false =>
          have hn : (xs[k] != ys[k]) = true := by unfold bne; rw [hxy]; rfl
          have HR' : (xs == ys) = false := by
            have : xs ≠ ys := fun e => by
              subst e
              simp at hxy
            simpa using this
          have HR : Hid ((xs == ys) = false) := HR'
          clear HR'
          clear ht hU hxy
          go_wp2
          go_region
          all_goals
            go_wp2
            go_ret
            exact ⟨by rw [HR.out]; rfl, HT.out.2.drew⟩
      · have hd : decide ((k : Int) < (xs.length : Int)) = false := by simp; omega
        have hR : xs = ys := by
          have hkk : k = xs.length := by omega
          have hl2 : k = ys.length := by have := HE.out; omega
          rw [hkk, List.take_length] at ht
          rw [← hkk, hl2, List.take_length] at ht
          exact ht
        have HR' : (xs == ys) = true := by simpa using hR
        have HR : Hid ((xs == ys) = true) := HR'
        clear ht hR HR'
        go_wp2
        go_ret
        exact ⟨by rw [HR.out]; rfl, hU⟩
  · have hne : ((xs.length : Int) != (ys.length : Int)) = true := by simp; omega
    have HR' : (xs == ys) = false := by
      have : xs ≠ ys := fun e => hl (by rw [e])
      simpa using this
    have HR : Hid ((xs == ys) = false) := HR'
    clear hl HR'
    go_enter Try.func8, Try.ntmps8
    go_wp2
    go_ret
    exact ⟨by rw [HR.out]; rfl, Upd.refl _ _⟩

theorem maxLen_val : maxLen = 9223372036854775807 := by decide
/-- A row laid at once. -/
theorem ar_lit (w : World) (xs : List Int) (cs : Array Value) (hc : cs = (xs.map (Value.int .i64)).toArray) (hx : xs.length ≤ 1073741824) (_hne : xs ≠ []) (n : Nat) (hn : n = xs.length) : AR (w.alloc (.cells cs 3)) w.heap.size (.slice (some ⟨w.heap.size, 0, none⟩) n n) xs := by
  subst hc hn
  refine Or.inr ⟨w.heap.size, Or.inr ⟨w.heap.size, 0, xs.length, _, rfl, rfl, Cl.new _ _ _ _ rfl, by simp, Nat.le_refl _, by omega, fun j hj => ?_⟩, Nat.le_refl _⟩
  rw [Nat.zero_add, List.getElem?_toArray]
  exact vals_at xs hj

end Go.Proofs.Ytpemnficdhjkhaa
