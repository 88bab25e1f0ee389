/- slices.Reverse of bytes, by its contract. -/
import Derived.Test.YtpeganecbjefoaaDoorDigU
import Derived.RegionTactic
import Derived.BigRegion
namespace Go.Proofs.YtpeganecbjefoaaDoor
open Go.RowKit

/-- A row of bytes, with spare cells behind them. -/
def BRow (w : World) (g : Nat) (D : List Nat) (R : List Value) : Prop := w.heap[g]? = some (.cells (D.map (fun n => Value.int .u8 (n : Nat)) ++ R).toArray 5 (0, 0))
theorem BRow.lt {w : World} {g : Nat} {D : List Nat} {R : List Value} (h : BRow w g D R) : g < w.heap.size := lt_of_block h
theorem BRow.cell {w : World} {g : Nat} {D : List Nat} {R : List Value} (h : BRow w g D R) (i : Nat) (hi : i < D.length) : w.cell? ⟨g, i, none⟩ = some (.int .u8 (D.getD i 0 : Nat)) := by
  rw [cell_of_row w g i _ _ _ h]
  simp [List.getElem?_append, List.getD, hi]
theorem BRow.free {w : World} {g : Nat} {D : List Nat} {R : List Value} (h : BRow w g D R) (i : Nat) : w.frozen? ⟨g, i, none⟩ = false := frozen_of_row w g i _ _ h
theorem BRow.set {w : World} {g : Nat} {D : List Nat} {R : List Value} (h : BRow w g D R) (i x : Nat) (hi : i < D.length) : BRow (w.setCell ⟨g, i, none⟩ (.int .u8 (x : Nat))) g (D.set i x) R := by
  unfold BRow
  rw [heap_setCell_same w g i _ _ _ h]
  congr 2
  simp [hi, List.map_set]

theorem rev_swap (D Y : List Nat) (n k j : Nat) (hn : D.length = n) (hY : Y.length = n) (hj : j + k + 1 = n) (hkj : k < j) (h : ∀ i, i < n → Y.getD i 0 = if i < k ∨ n - k ≤ i then D.getD (n - 1 - i) 0 else D.getD i 0) :
    ∀ i, i < n → ((Y.set k (Y.getD j 0)).set j (Y.getD k 0)).getD i 0 = if i < k + 1 ∨ n - (k + 1) ≤ i then D.getD (n - 1 - i) 0 else D.getD i 0 := by
  intro i hi
  have hk := h k (by omega)
  have hjj := h j (by omega)
  rw [if_neg (by omega)] at hk hjj
  have hii := h i hi
  by_cases e1 : i = j
  · subst e1
    rw [if_pos (by omega), List.getD_eq_getElem?_getD, List.getElem?_set_self (by simp; omega)]
    rw [show n - 1 - i = k by omega]
    exact hk
  · by_cases e2 : i = k
    · subst e2
      rw [if_pos (by omega), List.getD_eq_getElem?_getD, List.getElem?_set_ne (by omega), List.getElem?_set_self (by omega)]
      rw [show n - 1 - i = j by omega]
      exact hjj
    · rw [List.getD_eq_getElem?_getD, List.getElem?_set_ne (by omega), List.getElem?_set_ne (by omega), ← List.getD_eq_getElem?_getD, hii]
      by_cases e3 : i < k ∨ n - k ≤ i
      · rw [if_pos e3, if_pos (by omega)]
      · rw [if_neg e3, if_neg (by omega)]

theorem rev_end (D Y : List Nat) (n k j : Nat) (hn : D.length = n) (hY : Y.length = n) (hj : j + k + 1 = n ∨ n = 0) (hkj : ¬ k < j) (h : ∀ i, i < n → Y.getD i 0 = if i < k ∨ n - k ≤ i then D.getD (n - 1 - i) 0 else D.getD i 0) : Y = D.reverse := by
  apply List.ext_getElem?
  intro i
  by_cases hi : i < n
  · have h1 := h i hi
    have e : Y.getD i 0 = D.getD (n - 1 - i) 0 := by
      rw [h1]
      by_cases e3 : i < k ∨ n - k ≤ i
      · rw [if_pos e3]
      · rw [if_neg e3, show n - 1 - i = i by omega]
    rw [List.getElem?_reverse (by omega), List.getElem?_eq_getElem (by omega), List.getElem?_eq_getElem (by omega)]
    rw [List.getD_eq_getElem?_getD, List.getD_eq_getElem?_getD, List.getElem?_eq_getElem (by omega), List.getElem?_eq_getElem (by omega)] at e
    simp only [Option.getD_some] at e
    rw [e]
    congr 2
    omega
  · rw [List.getElem?_eq_none (by omega), List.getElem?_eq_none (by simp; omega)]

set_option maxHeartbeats 1000000 in
set_option maxRecDepth 100000 in
theorem Reverse_any (g cap : Nat) (D : List Nat) (R : List Value) (w : World) (hn : D.length ≤ 1000) (hpos : 0 < D.length) (hB : BRow w g D R) :
    Calls Tryd.prog 60 #[.slice (some ⟨g, 0, none⟩) D.length cap] w fun e w' => e = .returned (.tuple #[]) ∧ BRow w' g D.reverse R ∧ Upd [g] w w' := by
  go_enter Tryd.func60, Tryd.ntmps60
  go_wp2_with fail
  go_loopg [2, 3] (D.length - 1) (fun q si sj wr => ∃ k j : Nat, ∃ Y : List Nat, q = j ∧ si = .int .i64 k ∧ sj = .int .i64 j ∧ j + k + 1 = D.length ∧ Y.length = D.length ∧ BRow wr g Y R ∧ Upd [g] w wr ∧ (∀ i, i < D.length → Y.getD i 0 = if i < k ∨ D.length - k ≤ i then D.getD (D.length - 1 - i) 0 else D.getD i 0))
  case atStart =>
    refine ⟨0, D.length - 1, D, rfl, rfl, by go_num, by omega, rfl, hB, Upd.refl _ _, fun i hi => ?_⟩
    rw [if_neg (by omega)]
  case round =>
    obtain ⟨k, j, Y, rfl, rfl, rfl, hjk, hYl, hY, hU, hz⟩ := hrel
    have HJK : Hid _ := hjk
    have HYL : Hid _ := hYl
    have HZ : Hid _ := hz
    have hjl : gk < D.length := by omega
    have hkl : k < D.length := by omega
    have hck := hY.cell k (by omega)
    have hcj := hY.cell gk (by omega)
    have hfk := hY.free k
    have hfj := hY.free gk
    obtain ⟨x, hx⟩ : ∃ x, x = Y.getD k 0 := ⟨_, rfl⟩
    obtain ⟨y, hy⟩ : ∃ y, y = Y.getD gk 0 := ⟨_, rfl⟩
    rw [← hx] at hck
    rw [← hy] at hcj
    have HX : Hid _ := hx
    have HY : Hid _ := hy
    clear hx hy hjk hYl hz
    by_cases hlt : k < gk
    · go_wp2
      go_region
      all_goals go_wp2
      go_roundg (gk - 1)
      case measure => omega
      case rel =>
        have hb := (hY.set k y (by rw [HYL.out]; exact hkl)).set gk x (by rw [List.length_set, HYL.out]; exact hjl)
        refine ⟨k + 1, gk - 1, (Y.set k y).set gk x, rfl, by go_num, by go_num, by have := HJK.out; omega, by rw [List.length_set, List.length_set]; exact HYL.out, hb, ((hU.setCell (Or.inr (by simp)) _).setCell (Or.inr (by simp)) _).drew, ?_⟩
        have := rev_swap D Y D.length k gk rfl HYL.out HJK.out hlt HZ.out
        rw [HX.out, HY.out]; exact this
    · go_wp2
      go_end0
      have := rev_end D Y D.length k gk rfl HYL.out (Or.inl HJK.out) hlt HZ.out
      exact ⟨rfl, this ▸ hY, hU⟩

end Go.Proofs.YtpeganecbjefoaaDoor
