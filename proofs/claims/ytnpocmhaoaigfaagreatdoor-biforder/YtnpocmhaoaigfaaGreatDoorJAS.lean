/- slices.Reverse of bytes, by its contract. -/
import Derived.Test.YtnpocmhaoaigfaaGreatDoorJAR
import Derived.RegionTactic
import Derived.BigRegion

namespace Go.Proofs.YtnpocmhaoaigfaaGreatDoor
open Go.RowKit

/-- A row of bytes, with spare cells behind them. -/
def BRow (w : World) (g : Nat) (D : List Nat) (R : List Value) : Prop := w.heap[g]? = some (.cells (D.map (fun n => Value.int .u8 (n : Nat)) ++ R).toArray 5 (0, 0))
theorem BRow.lt {w : World} {g : Nat} {D : List Nat} {R : List Value} (h : BRow w g D R) : g < w.heap.size := lt_of_block h
theorem BRow.cell {w : World} {g : Nat} {D : List Nat} {R : List Value} (h : BRow w g D R) (i : Nat) (hi : i < D.length) : w.cell? ⟨g, i, none⟩ = some (.int .u8 (D.getD i 0 : Nat)) := by
  rw [cell_of_row w g i _ _ _ h]
  simp [List.getElem?_append, List.getD, hi]
theorem BRow.free {w : World} {g : Nat} {D : List Nat} {R : List Value} (h : BRow w g D R) (i : Nat) : w.frozen? ⟨g, i, none⟩ = false := frozen_of_row w g i _ _ h
theorem BRow.set {w : World} {g : Nat} {D : List Nat} {R : List Value} (h : BRow w g D R) (i x : Nat) (hi : i < D.length) : BRow (w.setCell ⟨g, i, none⟩ (.int .u8 (x : Nat))) g (D.set i x) R := by
  unfold BRow
  rw [heap_setCell_same w g i _ _ _ h]
  congr 2
  simp [hi, List.map_set]

theorem rev_swap (D Y : List Nat) (n k j : Nat) (hn : D.length = n) (hY : Y.length = n) (hj : j + k + 1 = n) (hkj : k < j) (h : ∀ i, i < n → Y.getD i 0 = if i < k ∨ n - k ≤ i then D.getD (n - 1 - i) 0 else D.getD i 0) :
    ∀ i, i < n → ((Y.set k (Y.getD j 0)).set j (Y.getD k 0)).getD i 0 = if i < k + 1 ∨ n - (k + 1) ≤ i then D.getD (n - 1 - i) 0 else D.getD i 0 := by
  intro i hi
  have hk := h k (by omega)
  have hjj := h j (by omega)
  rw [if_neg (by omega)] at hk hjj
  have hii := h i hi
  by_cases e1 : i = j
  · subst e1
    rw [if_pos (by omega), List.getD_eq_getElem?_getD, List.getElem?_set_self (by simp; omega)]
    rw [show n - 1 - i = k by omega]
    exact hk
  · by_cases e2 : i = k
    · subst e2
      rw [if_pos (by omega), List.getD_eq_getElem?_getD, List.getElem?_set_ne (by omega), List.getElem?_set_self (by omega)]
      rw [show n - 1 - i = j by omega]
      exact hjj
    · rw [List.getD_eq_getElem?_getD, List.getElem?_set_ne (by omega), List.getElem?_set_ne (by omega), ← List.getD_eq_getElem?_getD, hii]
      by_cases e3 : i < k ∨ n - k ≤ i
      · rw [if_pos e3, if_pos (by omega)]
      · rw [if_neg e3, if_neg (by omega)]

theorem rev_end (D Y : List Nat) (n k j : Nat) (hn : D.length = n) (hY : Y.length = n) (hj : j + k + 1 = n ∨ n = 0) (hkj : ¬ k < j) (h : ∀ i, i < n → Y.getD i 0 = if i < k ∨ n - k ≤ i then D.getD (n - 1 - i) 0 else D.getD i 0) : Y = D.reverse := by
  apply List.ext_getElem?
  intro i
  by_cases hi : i < n
  · have h1 := h i hi
    have e : Y.getD i 0 = D.getD (n - 1 - i) 0 := by
      rw [h1]
      by_cases e3 : i < k ∨ n - k ≤ i
      · rw [if_pos e3]
      · rw [if_neg e3, show n - 1 - i = i by omega]
    rw [List.getElem?_reverse (by omega), List.getElem?_eq_getElem (by omega), List.getElem?_eq_getElem (by omega)]
    rw [List.getD_eq_getElem?_getD, List.getD_eq_getElem?_getD, List.getElem?_eq_getElem (by omega), List.getElem?_eq_getElem (by omega)] at e
    simp only [Option.getD_some] at e
    rw [e]
    congr 2
    omega
  · rw [List.getElem?_eq_none (by omega), List.getElem?_eq_none (by simp; omega)]

set_option maxHeartbeats 1000000 in
set_option maxRecDepth 100000 in
theorem Reverse_any (g cap : Nat) (D : List Nat) (R : List Value) (w : World) (hn : D.length ≤ 1000) (hpos : 0 < D.length) (hB : BRow w g D R) :
    Calls Tryz.prog 32 #[.slice (some ⟨g, 0, none⟩) D.length cap] w fun e w' => e = .returned (.tuple #[]) ∧ BRow w' g D.reverse R ∧ Upd [g] w w' := by
  go_enter Tryz.func32, Tryz.ntmps32
  go_wp2_with fail
  go_loopg [2, 3] (D.length - 1) (fun q si sj wr => ∃ k j : Nat, ∃ Y : List Nat, q = j ∧ si = .int .i64 k ∧ sj = .int .i64 j ∧ j + k + 1 = D.length ∧ Y.length = D.length ∧ BRow wr g Y R ∧ Upd [g] w wr ∧ (∀ i, i < D.length → Y.getD i 0 = if i < k ∨ D.length - k ≤ i then D.getD (D.length - 1 - i) 0 else D.getD i 0))
  case atStart =>
    refine ⟨0, D.length - 1, D, rfl, rfl, by go_num, by omega, rfl, hB, Upd.refl _ _, fun i hi => ?_⟩
    rw [if_neg (by omega)]
  case round =>
    obtain ⟨k, j, Y, rfl, rfl, rfl, hjk, hYl, hY, hU, hz⟩ := hrel
    have HJK : Hid _ := hjk
    have HYL : Hid _ := hYl
    have HZ : Hid _ := hz
    have hjl : gk < D.length := by omega
    have hkl : k < D.length := by omega
    have hck := hY.cell k (by omega)
    have hcj := hY.cell gk (by omega)
    have hfk := hY.free k
    have hfj := hY.free gk
    obtain ⟨x, hx⟩ : ∃ x, x = Y.getD k 0 := ⟨_, rfl⟩
    obtain ⟨y, hy⟩ : ∃ y, y = Y.getD gk 0 := ⟨_, rfl⟩
    rw [← hx] at hck
    rw [← hy] at hcj
    have HX : Hid _ := hx
    have HY : Hid _ := hy
    clear hx hy hjk hYl hz
    by_cases hlt : k < gk
    · go_wp2
      go_region
      all_goals go_wp2
      go_roundg (gk - 1)
      case measure => omega
      case rel =>
        have hb := (hY.set k y (by rw [HYL.out]; exact hkl)).set gk x (by rw [List.length_set, HYL.out]; exact hjl)
        refine ⟨k + 1, gk - 1, (Y.set k y).set gk x, rfl, by go_num, by go_num, by have := HJK.out; omega, by rw [List.length_set, List.length_set]; exact HYL.out, hb, ((hU.setCell (Or.inr (by simp)) _).setCell (Or.inr (by simp)) _).drew, ?_⟩
        have := rev_swap D Y D.length k gk rfl HYL.out HJK.out hlt HZ.out
        rw [HX.out, HY.out]; exact this
    · go_wp2
      go_end0
      have := rev_end D Y D.length k gk rfl HYL.out (Or.inl HJK.out) hlt HZ.out
      exact ⟨rfl, this ▸ hY, hU⟩

end Go.Proofs.YtnpocmhaoaigfaaGreatDoor

/- Texts: digits, the highest one first. -/
namespace Go.Proofs.YtnpocmhaoaigfaaGreatDoor
open Go.RowKit

theorem dval_lt_ten {L : List Nat} (hd : IsDig L) : dval L < 10 ^ L.length := by
  induction L with
  | nil => simp [dval]
  | cons x r ih =>
    have h1 := ih (fun y hy => hd y (List.mem_cons_of_mem _ hy))
    have h2 := hd x List.mem_cons_self
    rw [dval, List.length_cons, Nat.pow_succ]
    have : dval r + 1 ≤ 10 ^ r.length := h1
    omega

/-- Digits, the lowest one first, without noughts at the end. -/
structure NormD (L : List Nat) (n : Nat) : Prop where
  dig : IsDig L
  eq : dval L = n
  top : ∀ x, L.getLast? = some x → x ≠ 48

theorem dval_pos_of_top {L : List Nat} (hd : IsDig L) (hne : L ≠ []) (ht : ∀ x, L.getLast? = some x → x ≠ 48) : 0 < dval L := by
  have h := List.getLast?_eq_some_getLast hne
  have h0 := ht _ h
  have h1 : L = L.dropLast ++ [L.getLast hne] := (List.dropLast_concat_getLast hne).symm
  have h9 := hd _ (List.getLast_mem hne)
  rw [h1, dval_append]
  have h2 : dval [L.getLast hne] = L.getLast hne - 48 := by simp [dval]
  rw [h2]
  have h3 : 0 < 10 ^ L.dropLast.length * (L.getLast hne - 48) := Nat.mul_pos (Nat.pow_pos (by decide)) (by omega)
  omega

theorem NormD.uniq {L M : List Nat} {n : Nat} (h : NormD L n) (k : NormD M n) : L = M := by
  induction L generalizing M n with
  | nil =>
    cases M with
    | nil => rfl
    | cons y s =>
      have h1 := dval_pos_of_top k.dig (L := y :: s) (by simp) k.top
      have h2 := k.eq
      have h3 := h.eq
      simp only [dval] at h3; omega
  | cons x r ih =>
    cases M with
    | nil =>
      have h1 := dval_pos_of_top h.dig (L := x :: r) (by simp) h.top
      have h2 := k.eq
      have h3 := h.eq
      simp only [dval] at h2; omega
    | cons y s =>
      have e1 := h.eq
      have e2 := k.eq
      rw [dval] at e1 e2
      have hx := h.dig x List.mem_cons_self
      have hy := k.dig y List.mem_cons_self
      have hxy : x = y := by omega
      have hv : dval r = dval s := by omega
      have hr : NormD r (dval r) := ⟨fun z hz => h.dig z (List.mem_cons_of_mem _ hz), rfl, fun z hz => h.top z (by cases r with | nil => simp at hz | cons a t => simpa using hz)⟩
      have hs : NormD s (dval r) := ⟨fun z hz => k.dig z (List.mem_cons_of_mem _ hz), hv.symm, fun z hz => k.top z (by cases s with | nil => simp at hz | cons a t => simpa using hz)⟩
      rw [hxy, ih hr hs]

/-- The decimal digits of n, the highest one first. -/
def IsDec (H : List Nat) (n : Nat) : Prop := (n = 0 ∧ H = [48]) ∨ (n ≠ 0 ∧ NormD H.reverse n)
theorem IsDec.uniq {H K : List Nat} {n : Nat} (h : IsDec H n) (k : IsDec K n) : H = K := by
  rcases h with ⟨h1, h2⟩ | ⟨h1, h2⟩ <;> rcases k with ⟨k1, k2⟩ | ⟨k1, k2⟩
  · rw [h2, k2]
  · exact absurd h1 k1
  · exact absurd k1 h1
  · have := h2.uniq k2
    rw [← List.reverse_reverse H, this, List.reverse_reverse]

/-- The text of z. -/
def IsText (T : List Nat) (z : Int) : Prop := ∃ H, T = (if z < 0 then 45 :: H else H) ∧ IsDec H z.natAbs
theorem IsText.uniq {T U : List Nat} {z : Int} (h : IsText T z) (k : IsText U z) : T = U := by
  obtain ⟨H, h1, h2⟩ := h
  obtain ⟨K, k1, k2⟩ := k
  rw [h1, k1, h2.uniq k2]

/-- What is left of the digits without the noughts at the end. -/
theorem normD_take {D : List Nat} {n m : Nat} (hd : IsDig D) (hv : dval D = n) (hm : 0 < m) (hml : m ≤ D.length) (hz : ∀ i, m ≤ i → i < D.length → D.getD i 0 = 48) (ht : D.getD (m - 1) 0 ≠ 48) : NormD (D.take m) n := by
  refine ⟨fun c hc => hd c (List.mem_of_mem_take hc), ?_, ?_⟩
  · rw [← hv]
    have h : ∀ E : List Nat, (∀ c, c ∈ E → c = 48) → dval E = 0 := by
      intro E hE
      induction E with
      | nil => rfl
      | cons x r ih =>
        rw [dval, ih (fun c hc => hE c (List.mem_cons_of_mem _ hc)), hE x List.mem_cons_self]
    have h2 := dval_append (D.take m) (D.drop m)
    rw [List.take_append_drop] at h2
    rw [h2, h (D.drop m) (fun c hc => by
      obtain ⟨i, hi, e⟩ := List.getElem_of_mem hc
      rw [List.getElem_drop] at e
      have := hz (m + i) (by omega) (by simp at hi; omega)
      rw [List.getD_eq_getElem?_getD, List.getElem?_eq_getElem (by simp at hi; omega)] at this
      rw [← e]; exact this)]
    omega
  · intro x hx
    have hl : (D.take m).length = m := by simp; omega
    rw [List.getLast?_eq_getElem?, hl, List.getElem?_take_of_lt (by omega)] at hx
    rw [List.getD_eq_getElem?_getD, hx] at ht
    exact ht

theorem exists_nz {D : List Nat} (h : 0 < dval D) : ∃ i, i < D.length ∧ D.getD i 0 ≠ 48 := by
  induction D with
  | nil => simp [dval] at h
  | cons x r ih =>
    by_cases e : x = 48
    · rw [dval, e] at h
      obtain ⟨i, h1, h2⟩ := ih (by omega)
      exact ⟨i + 1, by simpa using h1, by simpa using h2⟩
    · exact ⟨0, by simp, by simpa using e⟩

/-- Bytes as a string. -/
def bs (T : List Nat) : ByteArray := ⟨(T.map (fun n => UInt8.ofNat n)).toArray⟩

theorem OB.row {w : World} {base : Nat} {v : Value} {D : List Nat} (h : OB w base v D) (hne : D ≠ []) :
    ∃ g cap R, v = .slice (some ⟨g, 0, none⟩) D.length cap ∧ base ≤ g ∧ D.length ≤ cap ∧ cap ≤ 9223372036854775807 ∧ D.length + R.length = cap ∧ BRow w g D R := by
  obtain ⟨_, ⟨_, h1⟩ | ⟨g, cap, cur, hv, hb, hh, hc1, hc2, hcs, hcu⟩⟩ := h
  · exact absurd (List.eq_nil_of_length_eq_zero h1) hne
  · refine ⟨g, cap, cur.toList.drop D.length, hv, hb, hc1, by unfold maxLen at hc2; omega, ?_, ?_⟩
    · have e : cur.toList.length = cap := by rw [Array.length_toList, hcs, Nat.mul_one]
      rw [List.length_drop, e]; omega
    · unfold BRow
      rw [hh, ← hcu, Nat.mul_one, List.take_append_drop]

theorem BRow.take {w : World} {g : Nat} {D : List Nat} {R : List Value} (h : BRow w g D R) (m : Nat) : BRow w g (D.take m) ((D.drop m).map (fun n => Value.int .u8 (n : Nat)) ++ R) := by
  unfold BRow at *
  rw [h, ← List.append_assoc, ← List.map_append, List.take_append_drop]

theorem BRow.owns {w : World} {g base cap : Nat} {D : List Nat} {R : List Value} (h : BRow w g D R) (hb : base ≤ g) (hc : D.length + R.length = cap) (hm : cap ≤ 9223372036854775807) : OB w base (.slice (some ⟨g, 0, none⟩) D.length cap) D :=
  ⟨by simp, Or.inr ⟨g, cap, _, rfl, hb, h, by omega, by unfold maxLen; omega, by simp; omega, by rw [Nat.mul_one, List.take_left' (by simp)]⟩⟩

theorem BRow.conv {w : World} {g cap : Nat} {D : List Nat} {R : List Value} (h : BRow w g D R) (hd : ∀ c, c ∈ D → c < 256) :
    (convert 52 9 (.slice (some ⟨g, 0, none⟩) D.length cap)).run Tryz.prog w = .ok (.string (bs D)) w := by
  have e : (D.map (fun n => UInt8.ofNat n)).length = D.length := by simp
  have := run_convert_bytes_back (P := Tryz.prog) w 52 9 5 ⟨g, 0, none⟩ cap (D.map (fun n => UInt8.ofNat n)) Tryz.underlying52 Tryz.underlying5 Tryz.underlying9 ?_
  · rw [e] at this; exact this
  · intro i hi
    rw [e] at hi
    rw [Addr.add_lit, Nat.zero_add, h.cell i hi]
    have h1 := hd D[i] (List.getElem_mem hi)
    simp [List.getD, hi]
    omega

end Go.Proofs.YtnpocmhaoaigfaaGreatDoor

/- bytes.TrimRight at the cutset 0, and slices.Reverse, by their contracts. -/
namespace Go.Proofs.YtnpocmhaoaigfaaGreatDoor
open Go.RowKit

set_option maxHeartbeats 1000000 in
set_option maxRecDepth 100000 in
theorem trimRightByte_any (g cap : Nat) (D : List Nat) (w : World) (_hn : D.length ≤ 400) (hcap : D.length ≤ cap) (hcm : cap ≤ 9223372036854775807) (hc : ∀ i, i < D.length → w.cell? ⟨g, i, none⟩ = some (.int .u8 (D.getD i 0 : Nat))) (hnz : ∃ i, i < D.length ∧ D.getD i 0 ≠ 48) :
    Calls Tryz.prog 53 #[.slice (some ⟨g, 0, none⟩) D.length cap, .int .u8 48] w fun e w' =>
      w' = w ∧ ∃ m : Nat, 0 < m ∧ m ≤ D.length ∧ (∀ i, m ≤ i → i < D.length → D.getD i 0 = 48) ∧ D.getD (m - 1) 0 ≠ 48 ∧ e = .returned (.slice (some ⟨g, 0, none⟩) m cap) := by
  go_enter Tryz.func53, Tryz.ntmps53
  go_wp2_with fail
  go_loopg [0] D.length (fun k s wr => wr = w ∧ k ≤ D.length ∧ s = .slice (some ⟨g, 0, none⟩) k cap ∧ (∀ i, k ≤ i → i < D.length → D.getD i 0 = 48))
  case atStart => exact ⟨rfl, Nat.le_refl _, rfl, fun i h1 h2 => by omega⟩
  case round =>
    obtain ⟨rfl, hk, rfl, hz⟩ := hrel
    have hpos : 0 < gk := by
      rcases Nat.eq_zero_or_pos gk with h | h
      · obtain ⟨i, h1, h2⟩ := hnz
        exact absurd (hz i (by omega) h1) h2
      · exact h
    have hcell := hc (gk - 1) (by omega)
    obtain ⟨x, hx⟩ : ∃ x, x = D.getD (gk - 1) 0 := ⟨_, rfl⟩
    rw [← hx] at hcell
    have HX : Hid _ := hx
    have HZ : Hid _ := hz
    clear hx hz hc hnz
    by_cases h48 : x = 48
    · subst h48
      go_wp2
      go_roundg (gk - 1)
      case measure => omega
      case rel =>
        refine ⟨rfl, by omega, by go_num, fun i h1 h2 => ?_⟩
        by_cases e : i = gk - 1
        · rw [e]; exact HX.out.symm
        · exact HZ.out i (by omega) h2
    · have h48' : ((x : Int) == 48) = false := by simp; omega
      go_wp2
      go_ret
      refine ⟨rfl, gk, hpos, hk, HZ.out, ?_, rfl⟩
      intro hh; apply h48; rw [HX.out]; exact hh

set_option maxHeartbeats 400000 in
set_option maxRecDepth 100000 in
theorem TrimRight_any (g cap : Nat) (D : List Nat) (w : World) (hn : D.length ≤ 400) (hcap : D.length ≤ cap) (hcm : cap ≤ 9223372036854775807) (hc : ∀ i, i < D.length → w.cell? ⟨g, i, none⟩ = some (.int .u8 (D.getD i 0 : Nat))) (hnz : ∃ i, i < D.length ∧ D.getD i 0 ≠ 48) :
    Calls Tryz.prog 30 #[.slice (some ⟨g, 0, none⟩) D.length cap, .string ⟨#[48]⟩] w fun e w' =>
      w' = w ∧ ∃ m : Nat, 0 < m ∧ m ≤ D.length ∧ (∀ i, m ≤ i → i < D.length → D.getD i 0 = 48) ∧ D.getD (m - 1) 0 ≠ 48 ∧ e = .returned (.slice (some ⟨g, 0, none⟩) m cap) := by
  have hl : ((D.length : Int) == 0) = false := by
    obtain ⟨i, h1, _⟩ := hnz
    simp; intro e; rw [e] at h1; simp at h1
  have HC : Hid (Calls _ _ _ _ _) := trimRightByte_any g cap D w hn hcap hcm hc hnz
  clear hc hnz
  go_enter Tryz.func30, Tryz.ntmps30
  go_wp2_with fail
  refine (Hid.out HC).mono ?_
  rintro e w1 ⟨rfl, m, h1, h2, h3, h4, rfl⟩
  have H3 : Hid _ := h3
  have H4 : Hid _ := h4
  clear h3 h4
  go_wp2
  go_ret
  exact ⟨rfl, m, h1, h2, H3.out, H4.out, rfl⟩

end Go.Proofs.YtnpocmhaoaigfaaGreatDoor
