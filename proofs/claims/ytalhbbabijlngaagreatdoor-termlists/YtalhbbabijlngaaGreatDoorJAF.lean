/- slices.Reverse of bytes, by its contract. -/
import Derived.Test.YtalhbbabijlngaaGreatDoorJAE
import Derived.RegionTactic
import Derived.BigRegion
import Derived.Test.YtalhbbabijlngaaGreatDoorJAC
import Derived.Test.YtalhbbabijlngaaGreatDoorJAD
import Derived.Lib.Bytealg
import Derived.Laws.Externs
namespace Go.Proofs.YtalhbbabijlngaaGreatDoor
open Go.RowKit
def BRow (w : World) (g : Nat) (D : List Nat) (R : List Value) : Prop := w.heap[g]? = some (.cells (D.map (fun n => Value.int .u8 (n : Nat)) ++ R).toArray 5 (0, 0))
theorem BRow.cell {w : World} {g : Nat} {D : List Nat} {R : List Value} (h : BRow w g D R) (i : Nat) (hi : i < D.length) : w.cell? ⟨g, i, none⟩ = some (.int .u8 (D.getD i 0 : Nat)) := by
 rw [cell_of_row w g i _ _ _ h]
 simp [List.getElem?_append, List.getD, hi]
theorem BRow.free {w : World} {g : Nat} {D : List Nat} {R : List Value} (h : BRow w g D R) (i : Nat) : w.frozen? ⟨g, i, none⟩ = false := frozen_of_row w g i _ _ h
theorem BRow.set {w : World} {g : Nat} {D : List Nat} {R : List Value} (h : BRow w g D R) (i x : Nat) (hi : i < D.length) : BRow (w.setCell ⟨g, i, none⟩ (.int .u8 (x : Nat))) g (D.set i x) R := by
 unfold BRow
 rw [heap_setCell_same w g i _ _ _ h]
 congr 2
 simp [hi, List.map_set]
theorem rev_swap (D Y : List Nat) (n k j : Nat) (hn : D.length = n) (hY : Y.length = n) (hj : j + k + 1 = n) (hkj : k < j) (h : ∀ i, i < n → Y.getD i 0 = if i < k ∨ n - k ≤ i then D.getD (n - 1 - i) 0 else D.getD i 0) :
  ∀ i, i < n → ((Y.set k (Y.getD j 0)).set j (Y.getD k 0)).getD i 0 = if i < k + 1 ∨ n - (k + 1) ≤ i then D.getD (n - 1 - i) 0 else D.getD i 0 := by
 intro i hi
 have hk := h k (by omega)
 have hjj := h j (by omega)
 rw [if_neg (by omega)] at hk hjj
 have hii := h i hi
 by_cases e1 : i = j
 ·subst e1
  rw [if_pos (by omega), List.getD_eq_getElem?_getD, List.getElem?_set_self (by simp; omega)]
  rw [show n - 1 - i = k by omega]
  exact hk
 ·by_cases e2 : i = k
  ·subst e2
   rw [if_pos (by omega), List.getD_eq_getElem?_getD, List.getElem?_set_ne (by omega), List.getElem?_set_self (by omega)]
   rw [show n - 1 - i = j by omega]
   exact hjj
  ·rw [List.getD_eq_getElem?_getD, List.getElem?_set_ne (by omega), List.getElem?_set_ne (by omega), ← List.getD_eq_getElem?_getD, hii]
   by_cases e3 : i < k ∨ n - k ≤ i
   ·rw [if_pos e3, if_pos (by omega)]
   ·rw [if_neg e3, if_neg (by omega)]
theorem rev_end (D Y : List Nat) (n k j : Nat) (hn : D.length = n) (hY : Y.length = n) (hj : j + k + 1 = n ∨ n = 0) (hkj : ¬ k < j) (h : ∀ i, i < n → Y.getD i 0 = if i < k ∨ n - k ≤ i then D.getD (n - 1 - i) 0 else D.getD i 0) : Y = D.reverse := by
 apply List.ext_getElem?
 intro i
 by_cases hi : i < n
 ·have h1 := h i hi
  have e : Y.getD i 0 = D.getD (n - 1 - i) 0 := by
   rw [h1]
   by_cases e3 : i < k ∨ n - k ≤ i
   ·rw [if_pos e3]
   ·rw [if_neg e3, show n - 1 - i = i by omega]
  rw [List.getElem?_reverse (by omega), List.getElem?_eq_getElem (by omega), List.getElem?_eq_getElem (by omega)]
  rw [List.getD_eq_getElem?_getD, List.getD_eq_getElem?_getD, List.getElem?_eq_getElem (by omega), List.getElem?_eq_getElem (by omega)] at e
  simp only [Option.getD_some] at e
  rw [e]
  congr 2
  omega
 ·rw [List.getElem?_eq_none (by omega), List.getElem?_eq_none (by simp; omega)]
set_option maxHeartbeats 1000000 in
set_option maxRecDepth 100000 in
theorem Reverse_any (g cap : Nat) (D : List Nat) (R : List Value) (w : World) (hn : D.length ≤ 1000) (hpos : 0 < D.length) (hB : BRow w g D R) :
  Calls Tryz.prog 77 #[.slice (some ⟨g, 0, none⟩) D.length cap] w fun e w' => e = .returned (.tuple #[]) ∧ BRow w' g D.reverse R ∧ Upd [g] w w' := by
 go_enter Tryz.func77, Tryz.ntmps77
 go_wp2_with fail
 go_loopg [2, 3] (D.length - 1) (fun q si sj wr => ∃ k j : Nat, ∃ Y : List Nat, q = j ∧ si = .int .i64 k ∧ sj = .int .i64 j ∧ j + k + 1 = D.length ∧ Y.length = D.length ∧ BRow wr g Y R ∧ Upd [g] w wr ∧ (∀ i, i < D.length → Y.getD i 0 = if i < k ∨ D.length - k ≤ i then D.getD (D.length - 1 - i) 0 else D.getD i 0))
 case atStart =>
  refine ⟨0, D.length - 1, D, rfl, rfl, by go_num, by omega, rfl, hB, Upd.refl _ _, fun i hi => ?_⟩
  rw [if_neg (by omega)]
 case round =>
  obtain ⟨k, j, Y, rfl, rfl, rfl, hjk, hYl, hY, hU, hz⟩ := hrel
  have HJK : Hid _ := hjk
  have HYL : Hid _ := hYl
  have HZ : Hid _ := hz
  have hjl : gk < D.length := by omega
  have hkl : k < D.length := by omega
  have hck := hY.cell k (by omega)
  have hcj := hY.cell gk (by omega)
  have hfk := hY.free k
  have hfj := hY.free gk
  obtain ⟨x, hx⟩ : ∃ x, x = Y.getD k 0 := ⟨_, rfl⟩
  obtain ⟨y, hy⟩ : ∃ y, y = Y.getD gk 0 := ⟨_, rfl⟩
  rw [← hx] at hck
  rw [← hy] at hcj
  have HX : Hid _ := hx
  have HY : Hid _ := hy
  clear hx hy hjk hYl hz
  by_cases hlt : k < gk
  ·go_wp2
   go_region
   all_goals go_wp2
   go_roundg (gk - 1)
   case measure => omega
   case rel =>
    have hb := (hY.set k y (by rw [HYL.out]; exact hkl)).set gk x (by rw [List.length_set, HYL.out]; exact hjl)
    refine ⟨k + 1, gk - 1, (Y.set k y).set gk x, rfl, by go_num, by go_num, by have := HJK.out; omega, by rw [List.length_set, List.length_set]; exact HYL.out, hb, ((hU.setCell (Or.inr (by simp)) _).setCell (Or.inr (by simp)) _).drew, ?_⟩
    have := rev_swap D Y D.length k gk rfl HYL.out HJK.out hlt HZ.out
    rw [HX.out, HY.out]; exact this
  ·go_wp2
   go_end0
   have := rev_end D Y D.length k gk rfl HYL.out (Or.inl HJK.out) hlt HZ.out
   exact ⟨rfl, this ▸ hY, hU⟩
end Go.Proofs.YtalhbbabijlngaaGreatDoor
namespace Go.Proofs.YtalhbbabijlngaaGreatDoor
open Go.RowKit
structure NormD (L : List Nat) (n : Nat) : Prop where
 dig : IsDig L
 eq : dval L = n
 top : ∀ x, L.getLast? = some x → x ≠ 48
theorem dval_pos_of_top {L : List Nat} (hd : IsDig L) (hne : L ≠ []) (ht : ∀ x, L.getLast? = some x → x ≠ 48) : 0 < dval L := by
 have h := List.getLast?_eq_some_getLast hne
 have h0 := ht _ h
 have h1 : L = L.dropLast ++ [L.getLast hne] := (List.dropLast_concat_getLast hne).symm
 have h9 := hd _ (List.getLast_mem hne)
 rw [h1, dval_append]
 have h2 : dval [L.getLast hne] = L.getLast hne - 48 := by simp [dval]
 rw [h2]
 have h3 : 0 < 10 ^ L.dropLast.length * (L.getLast hne - 48) := Nat.mul_pos (Nat.pow_pos (by decide)) (by omega)
 omega
theorem NormD.uniq {L M : List Nat} {n : Nat} (h : NormD L n) (k : NormD M n) : L = M := by
 induction L generalizing M n with
 | nil =>
  cases M with
  | nil => rfl
  | cons y s =>
   have h1 := dval_pos_of_top k.dig (L := y :: s) (by simp) k.top
   have h2 := k.eq
   have h3 := h.eq
   simp only [dval] at h3; omega
 | cons x r ih =>
  cases M with
  | nil =>
   have h1 := dval_pos_of_top h.dig (L := x :: r) (by simp) h.top
   have h2 := k.eq
   have h3 := h.eq
   simp only [dval] at h2; omega
  | cons y s =>
   have e1 := h.eq
   have e2 := k.eq
   rw [dval] at e1 e2
   have hx := h.dig x List.mem_cons_self
   have hy := k.dig y List.mem_cons_self
   have hxy : x = y := by omega
   have hv : dval r = dval s := by omega
   have hr : NormD r (dval r) := ⟨fun z hz => h.dig z (List.mem_cons_of_mem _ hz), rfl, fun z hz => h.top z (by cases r with | nil => simp at hz | cons a t => simpa using hz)⟩
   have hs : NormD s (dval r) := ⟨fun z hz => k.dig z (List.mem_cons_of_mem _ hz), hv.symm, fun z hz => k.top z (by cases s with | nil => simp at hz | cons a t => simpa using hz)⟩
   rw [hxy, ih hr hs]
def IsDec (H : List Nat) (n : Nat) : Prop := (n = 0 ∧ H = [48]) ∨ (n ≠ 0 ∧ NormD H.reverse n)
theorem IsDec.uniq {H K : List Nat} {n : Nat} (h : IsDec H n) (k : IsDec K n) : H = K := by
 rcases h with ⟨h1, h2⟩ | ⟨h1, h2⟩ <;> rcases k with ⟨k1, k2⟩ | ⟨k1, k2⟩
 ·rw [h2, k2]
 ·exact absurd h1 k1
 ·exact absurd k1 h1
 ·have := h2.uniq k2
  rw [← List.reverse_reverse H, this, List.reverse_reverse]
def IsText (T : List Nat) (z : Int) : Prop := ∃ H, T = (if z < 0 then 45 :: H else H) ∧ IsDec H z.natAbs
theorem IsText.uniq {T U : List Nat} {z : Int} (h : IsText T z) (k : IsText U z) : T = U := by
 obtain ⟨H, h1, h2⟩ := h
 obtain ⟨K, k1, k2⟩ := k
 rw [h1, k1, h2.uniq k2]
theorem normD_take {D : List Nat} {n m : Nat} (hd : IsDig D) (hv : dval D = n) (hm : 0 < m) (hml : m ≤ D.length) (hz : ∀ i, m ≤ i → i < D.length → D.getD i 0 = 48) (ht : D.getD (m - 1) 0 ≠ 48) : NormD (D.take m) n := by
 refine ⟨fun c hc => hd c (List.mem_of_mem_take hc), ?_, ?_⟩
 ·rw [← hv]
  have h : ∀ E : List Nat, (∀ c, c ∈ E → c = 48) → dval E = 0 := by
   intro E hE
   induction E with
   | nil => rfl
   | cons x r ih =>
    rw [dval, ih (fun c hc => hE c (List.mem_cons_of_mem _ hc)), hE x List.mem_cons_self]
  have h2 := dval_append (D.take m) (D.drop m)
  rw [List.take_append_drop] at h2
  rw [h2, h (D.drop m) (fun c hc => by
   obtain ⟨i, hi, e⟩ := List.getElem_of_mem hc
   rw [List.getElem_drop] at e
   have := hz (m + i) (by omega) (by simp at hi; omega)
   rw [List.getD_eq_getElem?_getD, List.getElem?_eq_getElem (by simp at hi; omega)] at this
   rw [← e]; exact this)]
  omega
 ·intro x hx
  have hl : (D.take m).length = m := by simp; omega
  rw [List.getLast?_eq_getElem?, hl, List.getElem?_take_of_lt (by omega)] at hx
  rw [List.getD_eq_getElem?_getD, hx] at ht
  exact ht
theorem exists_nz {D : List Nat} (h : 0 < dval D) : ∃ i, i < D.length ∧ D.getD i 0 ≠ 48 := by
 induction D with
 | nil => simp [dval] at h
 | cons x r ih =>
  by_cases e : x = 48
  ·rw [dval, e] at h
   obtain ⟨i, h1, h2⟩ := ih (by omega)
   exact ⟨i + 1, by simpa using h1, by simpa using h2⟩
  ·exact ⟨0, by simp, by simpa using e⟩
def bs (T : List Nat) : ByteArray := ⟨(T.map (fun n => UInt8.ofNat n)).toArray⟩
theorem OB.row {w : World} {base : Nat} {v : Value} {D : List Nat} (h : OB w base v D) (hne : D ≠ []) :
  ∃ g cap R, v = .slice (some ⟨g, 0, none⟩) D.length cap ∧ base ≤ g ∧ D.length ≤ cap ∧ cap ≤ 9223372036854775807 ∧ D.length + R.length = cap ∧ BRow w g D R := by
 obtain ⟨_, ⟨_, h1⟩ | ⟨g, cap, cur, hv, hb, hh, hc1, hc2, hcs, hcu⟩⟩ := h
 ·exact absurd (List.eq_nil_of_length_eq_zero h1) hne
 ·refine ⟨g, cap, cur.toList.drop D.length, hv, hb, hc1, by unfold maxLen at hc2; omega, ?_, ?_⟩
  ·have e : cur.toList.length = cap := by rw [Array.length_toList, hcs, Nat.mul_one]
   rw [List.length_drop, e]; omega
  ·unfold BRow
   rw [hh, ← hcu, Nat.mul_one, List.take_append_drop]
theorem BRow.take {w : World} {g : Nat} {D : List Nat} {R : List Value} (h : BRow w g D R) (m : Nat) : BRow w g (D.take m) ((D.drop m).map (fun n => Value.int .u8 (n : Nat)) ++ R) := by
 unfold BRow at *
 rw [h, ← List.append_assoc, ← List.map_append, List.take_append_drop]
theorem BRow.owns {w : World} {g base cap : Nat} {D : List Nat} {R : List Value} (h : BRow w g D R) (hb : base ≤ g) (hc : D.length + R.length = cap) (hm : cap ≤ 9223372036854775807) : OB w base (.slice (some ⟨g, 0, none⟩) D.length cap) D :=
 ⟨by simp, Or.inr ⟨g, cap, _, rfl, hb, h, by omega, by unfold maxLen; omega, by simp; omega, by rw [Nat.mul_one, List.take_left' (by simp)]⟩⟩
theorem BRow.conv {w : World} {g cap : Nat} {D : List Nat} {R : List Value} (h : BRow w g D R) (hd : ∀ c, c ∈ D → c < 256) :
  (convert 52 9 (.slice (some ⟨g, 0, none⟩) D.length cap)).run Tryz.prog w = .ok (.string (bs D)) w := by
 have e : (D.map (fun n => UInt8.ofNat n)).length = D.length := by simp
 have := run_convert_bytes_back (P := Tryz.prog) w 52 9 5 ⟨g, 0, none⟩ cap (D.map (fun n => UInt8.ofNat n)) Tryz.underlying52 Tryz.underlying5 Tryz.underlying9 ?_
 ·rw [e] at this; exact this
 ·intro i hi
  rw [e] at hi
  rw [Addr.add_lit, Nat.zero_add, h.cell i hi]
  have h1 := hd D[i] (List.getElem_mem hi)
  simp [List.getD, hi]
  omega
end Go.Proofs.YtalhbbabijlngaaGreatDoor
namespace Go.Proofs.YtalhbbabijlngaaGreatDoor
open Go.RowKit
set_option maxHeartbeats 1000000 in
set_option maxRecDepth 100000 in
theorem trimRightByte_any (g cap : Nat) (D : List Nat) (w : World) (_hn : D.length ≤ 400) (hcap : D.length ≤ cap) (hcm : cap ≤ 9223372036854775807) (hc : ∀ i, i < D.length → w.cell? ⟨g, i, none⟩ = some (.int .u8 (D.getD i 0 : Nat))) (hnz : ∃ i, i < D.length ∧ D.getD i 0 ≠ 48) :
  Calls Tryz.prog 129 #[.slice (some ⟨g, 0, none⟩) D.length cap, .int .u8 48] w fun e w' =>
   w' = w ∧ ∃ m : Nat, 0 < m ∧ m ≤ D.length ∧ (∀ i, m ≤ i → i < D.length → D.getD i 0 = 48) ∧ D.getD (m - 1) 0 ≠ 48 ∧ e = .returned (.slice (some ⟨g, 0, none⟩) m cap) := by
 go_enter Tryz.func129, Tryz.ntmps129
 go_wp2_with fail
 go_loopg [0] D.length (fun k s wr => wr = w ∧ k ≤ D.length ∧ s = .slice (some ⟨g, 0, none⟩) k cap ∧ (∀ i, k ≤ i → i < D.length → D.getD i 0 = 48))
 case atStart => exact ⟨rfl, Nat.le_refl _, rfl, fun i h1 h2 => by omega⟩
 case round =>
  obtain ⟨rfl, hk, rfl, hz⟩ := hrel
  have hpos : 0 < gk := by
   rcases Nat.eq_zero_or_pos gk with h | h
   ·obtain ⟨i, h1, h2⟩ := hnz
    exact absurd (hz i (by omega) h1) h2
   ·exact h
  have hcell := hc (gk - 1) (by omega)
  obtain ⟨x, hx⟩ : ∃ x, x = D.getD (gk - 1) 0 := ⟨_, rfl⟩
  rw [← hx] at hcell
  have HX : Hid _ := hx
  have HZ : Hid _ := hz
  clear hx hz hc hnz
  by_cases h48 : x = 48
  ·subst h48
   go_wp2
   go_roundg (gk - 1)
   case measure => omega
   case rel =>
    refine ⟨rfl, by omega, by go_num, fun i h1 h2 => ?_⟩
    by_cases e : i = gk - 1
    ·rw [e]; exact HX.out.symm
    ·exact HZ.out i (by omega) h2
  ·have h48' : ((x : Int) == 48) = false := by simp; omega
   go_wp2
   go_ret
   refine ⟨rfl, gk, hpos, hk, HZ.out, ?_, rfl⟩
   intro hh; apply h48; rw [HX.out]; exact hh
set_option maxHeartbeats 400000 in
set_option maxRecDepth 100000 in
theorem TrimRight_any (g cap : Nat) (D : List Nat) (w : World) (hn : D.length ≤ 400) (hcap : D.length ≤ cap) (hcm : cap ≤ 9223372036854775807) (hc : ∀ i, i < D.length → w.cell? ⟨g, i, none⟩ = some (.int .u8 (D.getD i 0 : Nat))) (hnz : ∃ i, i < D.length ∧ D.getD i 0 ≠ 48) :
  Calls Tryz.prog 75 #[.slice (some ⟨g, 0, none⟩) D.length cap, .string ⟨#[48]⟩] w fun e w' =>
   w' = w ∧ ∃ m : Nat, 0 < m ∧ m ≤ D.length ∧ (∀ i, m ≤ i → i < D.length → D.getD i 0 = 48) ∧ D.getD (m - 1) 0 ≠ 48 ∧ e = .returned (.slice (some ⟨g, 0, none⟩) m cap) := by
 have hl : ((D.length : Int) == 0) = false := by
  obtain ⟨i, h1, _⟩ := hnz
  simp; intro e; rw [e] at h1; simp at h1
 have HC : Hid (Calls _ _ _ _ _) := trimRightByte_any g cap D w hn hcap hcm hc hnz
 clear hc hnz
 go_enter Tryz.func75, Tryz.ntmps75
 go_wp2_with fail
 refine (Hid.out HC).mono ?_
 rintro e w1 ⟨rfl, m, h1, h2, h3, h4, rfl⟩
 have H3 : Hid _ := h3
 have H4 : Hid _ := h4
 clear h3 h4
 go_wp2
 go_ret
 exact ⟨rfl, m, h1, h2, H3.out, H4.out, rfl⟩
end Go.Proofs.YtalhbbabijlngaaGreatDoor
namespace Go.Proofs.YtalhbbabijlngaaGreatDoor
open Go.RowKit
set_option maxHeartbeats 400000 in
set_option maxRecDepth 100000 in
theorem Text_zero (a ai at' : Option Addr) (c ci ct : Nat) (neg : Bool) (w : World) (HT : TI w neg a [] 0) :
  Calls Tryz.prog 46 #[.agg #[.int .u8 1, .bool neg, .slice a 0 c, .string ⟨#[]⟩, .int .i64 0, .slice ai 0 ci, .slice at' 0 ct]] w fun e w' => e = .returned (.string ⟨#[48]⟩) ∧ Upd [] w w' := by
 have HR : Hid (∀ W, Upd [] w W → _) := fun W hu => HT.right (W := W) ai at' c ci ct hu
 clear HT
 go_enter Tryz.func46, Tryz.ntmps46
 go_wp2_with fail
 refine (HR.out _ ((Upd.refl [] w).alloc _)).mono ?_
 rintro e w1 ⟨rfl, rfl⟩
 go_wp2
 go_ret
 exact ⟨rfl, ((Upd.refl [] w).alloc _).alloc _⟩
set_option maxHeartbeats 1000000 in
set_option maxRecDepth 100000 in
theorem Text_pos (a ai at' : Option Addr) (c ci ct : Nat) (neg : Bool) (L : List Nat) (z : Int) (w : World) (HT : TI w neg a L z) (hz : z ≠ 0) (hneg : neg = false) :
  Calls Tryz.prog 46 #[.agg #[.int .u8 1, .bool neg, .slice a L.length c, .string ⟨#[]⟩, .int .i64 0, .slice ai 0 ci, .slice at' 0 ct]] w fun e w' => Upd [] w w' ∧ ∃ T, e = .returned (.string (bs T)) ∧ IsDec T z.natAbs := by
 have HR : Hid (∀ W, Upd [] w W → _) := fun W hu => HT.right (W := W) ai at' c ci ct hu
 have HTT : Hid _ := HT
 have hl : ((L.length : Int) == 0) = false := by
  have : L ≠ [] := fun e => hz (by have := HT.norm.nil_iff.1 e; omega)
  cases L with
  | nil => exact absurd rfl this
  | cons x t => simp; omega
 have hL := HT.len
 clear HT
 subst hneg
 go_enter Tryz.func46, Tryz.ntmps46
 go_wp2_with fail
 refine (HR.out _ ((Upd.refl [] w).alloc _)).mono ?_
 rintro e w1 ⟨rfl, rfl⟩
 go_wp2_with fail
 obtain ⟨W, hW⟩ : ∃ W, W = ((w.alloc (.cells #[.int .u8 1, .bool false, .slice a L.length c, .string ⟨#[]⟩, .int .i64 0, .slice ai 0 ci, .slice at' 0 ct] 26)).alloc (.cells #[.int .u8 1, .bool false, .slice a L.length c, .string ⟨#[]⟩, .int .i64 0, .slice ai 0 ci, .slice at' 0 ct] 26)) := ⟨_, rfl⟩
 have hUW : Upd [] w W := by rw [hW]; exact ((Upd.refl [] w).alloc _).alloc _
 have tA : Tb W w.heap.size #[.int .u8 1, .bool false, .slice a L.length c, .string ⟨#[]⟩, .int .i64 0, .slice ai 0 ci, .slice at' 0 ct] := by rw [hW]; exact (Tb.new w _ _ rfl).old _
 rw [← hW]
 clear hW
 refine (digitsUp_any a c z.natAbs L W hL (HTT.out.mem.mono hUW) HTT.out.norm HTT.out.small).mono ?_
 rintro e w2 ⟨hU2, v, D, rfl, hOB, hD, hdv, hDl⟩
 have hDne : D ≠ [] := fun e => by rw [e] at hdv; simp [dval] at hdv; omega
 obtain ⟨g, cap, R, rfl, hbg, hc1, hc2, hcr, hrow⟩ := hOB.row hDne
 have hcA : w2.cell? ⟨w.heap.size, 1, none⟩ = some (.bool false) := (hU2.cell (p := ⟨w.heap.size, 1, none⟩) tA.lt (by simp)).trans (tA.cell 1)
 go_wp2_with fail
 refine (TrimRight_any g cap D w2 hDl hc1 hc2 (fun i hi => hrow.cell i hi) (exists_nz (by omega))).mono ?_
 rintro e w3 ⟨rfl, m, hm0, hml, hz3, ht3, rfl⟩
 have nD := normD_take hD hdv hm0 hml hz3 ht3
 have hr3 := hrow.take m
 have hlt : (D.take m).length = m := by simp; omega
 have hrev := Reverse_any g cap (D.take m) _ w3 (by omega) (by omega) hr3
 rw [hlt] at hrev
 have HREV : Hid (Calls _ _ _ _ _) := hrev
 clear hrev hz3 ht3 hOB
 go_wp2_with fail
 refine (Hid.out HREV).mono ?_
 rintro e w4 ⟨rfl, hr4, hU4⟩
 have hd256 : ∀ c, c ∈ (D.take m).reverse → c < 256 := fun c hc => by
  have := nD.dig c (List.mem_reverse.1 hc); omega
 have hconv := hr4.conv (cap := cap) hd256
 rw [List.length_reverse, hlt] at hconv
 go_wp2
 go_ret
 refine ⟨(hUW.trans hU2).then hU4 (by have := hUW.size; simp; omega), (D.take m).reverse, rfl, Or.inr ⟨by omega, by rw [List.reverse_reverse]; exact nD⟩⟩
end Go.Proofs.YtalhbbabijlngaaGreatDoor
namespace Go.Proofs.YtalhbbabijlngaaGreatDoor
open Go.RowKit
set_option maxHeartbeats 1000000 in
set_option maxRecDepth 100000 in
theorem Text_neg (a ai at' : Option Addr) (c ci ct : Nat) (neg : Bool) (L : List Nat) (z : Int) (w : World) (HT : TI w neg a L z) (hz : z ≠ 0) (hneg : neg = true) :
  Calls Tryz.prog 46 #[.agg #[.int .u8 1, .bool neg, .slice a L.length c, .string ⟨#[]⟩, .int .i64 0, .slice ai 0 ci, .slice at' 0 ct]] w fun e w' => Upd [] w w' ∧ ∃ T, e = .returned (.string (bs (45 :: T))) ∧ IsDec T z.natAbs := by
 have HR : Hid (∀ W, Upd [] w W → _) := fun W hu => HT.right (W := W) ai at' c ci ct hu
 have HTT : Hid _ := HT
 have hl : ((L.length : Int) == 0) = false := by
  have : L ≠ [] := fun e => hz (by have := HT.norm.nil_iff.1 e; omega)
  cases L with
  | nil => exact absurd rfl this
  | cons x t => simp; omega
 have hL := HT.len
 clear HT
 subst hneg
 go_enter Tryz.func46, Tryz.ntmps46
 go_wp2_with fail
 refine (HR.out _ ((Upd.refl [] w).alloc _)).mono ?_
 rintro e w1 ⟨rfl, rfl⟩
 go_wp2_with fail
 obtain ⟨W, hW⟩ : ∃ W, W = ((w.alloc (.cells #[.int .u8 1, .bool true, .slice a L.length c, .string ⟨#[]⟩, .int .i64 0, .slice ai 0 ci, .slice at' 0 ct] 26)).alloc (.cells #[.int .u8 1, .bool true, .slice a L.length c, .string ⟨#[]⟩, .int .i64 0, .slice ai 0 ci, .slice at' 0 ct] 26)) := ⟨_, rfl⟩
 have hUW : Upd [] w W := by rw [hW]; exact ((Upd.refl [] w).alloc _).alloc _
 have tA : Tb W w.heap.size #[.int .u8 1, .bool true, .slice a L.length c, .string ⟨#[]⟩, .int .i64 0, .slice ai 0 ci, .slice at' 0 ct] := by rw [hW]; exact (Tb.new w _ _ rfl).old _
 rw [← hW]
 clear hW
 refine (digitsUp_any a c z.natAbs L W hL (HTT.out.mem.mono hUW) HTT.out.norm HTT.out.small).mono ?_
 rintro e w2 ⟨hU2, v, D, rfl, hOB, hD, hdv, hDl⟩
 have hDne : D ≠ [] := fun e => by rw [e] at hdv; simp [dval] at hdv; omega
 obtain ⟨g, cap, R, rfl, hbg, hc1, hc2, hcr, hrow⟩ := hOB.row hDne
 have hcA : w2.cell? ⟨w.heap.size, 1, none⟩ = some (.bool true) := (hU2.cell (p := ⟨w.heap.size, 1, none⟩) tA.lt (by simp)).trans (tA.cell 1)
 go_wp2_with fail
 refine (TrimRight_any g cap D w2 hDl hc1 hc2 (fun i hi => hrow.cell i hi) (exists_nz (by omega))).mono ?_
 rintro e w3 ⟨rfl, m, hm0, hml, hz3, ht3, rfl⟩
 have nD := normD_take hD hdv hm0 hml hz3 ht3
 have hr3 := hrow.take m
 have hlt : (D.take m).length = m := by simp; omega
 have hown := hr3.owns (base := W.heap.size) (cap := cap) hbg (by simp; omega) hc2
 have hown' : w3.ownsRow W.heap.size 5 1 (.slice (some ⟨g, 0, none⟩) m cap) m ((D.take m).map (fun n => Value.int .u8 (n : Nat))) := by
  have h := hown
  unfold OB at h
  rw [hlt] at h
  exact h
 clear hown hz3 ht3 hOB hr3
 obtain ⟨i0, hi, hz0, hz1, hz2⟩ := info_parts info_u8
 have hszW := hU2.size
 go_wp2_with (at_builtin; refine wpList_append_own _ rfl _ _ 52 rfl W.heap.size 5 i0 (.int .u8 0) 1 1 Tryz.underlying52 hi hz0 hz1 hz2 rfl (by decide) _ _ _ rfl (hown'.alloc _) ⟨w3.heap.size, 0, none⟩ 1 1 [.int .u8 45] rfl rfl (cell_one_new _ _ _) (by intro u hu; simp at hu; subst hu; rfl) (by unfold maxLen; omega) (by omega) (by simp; omega) ?_; intro v' w4 hown4 hgrow _)
 have hOB4 : OB w4 W.heap.size v' (D.take m ++ [45]) := by
  unfold OB
  rw [List.map_append, List.length_append, hlt]
  exact hown4
 have hgrow2 : (w3.alloc (.cells #[.int .u8 45] 5)).grownBy w4 (some g) := hgrow
 have hU34 : Upd [g] w3 w4 := ((Upd.refl [g] w3).alloc _).grown hgrow2 (fun k hk => Or.inr (by cases hk; simp))
 obtain ⟨g2, cap2, R2, rfl, hbg2, hc21, hc22, hcr2, hrow2⟩ := hOB4.row (by simp)
 clear hown4 hgrow hgrow2 hown' hOB4
 have hlt2 : (D.take m ++ [45]).length = m + 1 := by rw [List.length_append, hlt]; rfl
 have hrev := Reverse_any g2 cap2 (D.take m ++ [45]) _ w4 (by omega) (by omega) hrow2
 have HREV : Hid (Calls _ _ _ _ _) := hrev
 clear hrev
 refine (Hid.out HREV).mono ?_
 rintro e w5 ⟨rfl, hr5, hU5⟩
 have hd256 : ∀ c, c ∈ (D.take m ++ [45]).reverse → c < 256 := fun c hc => by
  rcases List.mem_append.1 (List.mem_reverse.1 hc) with h | h
  ·have := nD.dig c h; omega
  ·simp at h; omega
 have hconv := hr5.conv (cap := cap2) hd256
 rw [List.length_reverse] at hconv
 have hconv2 := hconv
 rw [hlt2] at hconv2
 go_wp2
 go_ret
 refine ⟨?_, (D.take m).reverse, ?_, Or.inr ⟨by omega, by rw [List.reverse_reverse]; exact nD⟩⟩
 ·exact ((hUW.trans hU2).then hU34 (by have := hUW.size; simp; omega)).then hU5 (by have := hUW.size; simp; omega)
 ·rfl
theorem Text_any (a ai at' : Option Addr) (c ci ct : Nat) (neg : Bool) (L : List Nat) (z : Int) (w : World) (HT : TI w neg a L z) :
  Calls Tryz.prog 46 #[.agg #[.int .u8 1, .bool neg, .slice a L.length c, .string ⟨#[]⟩, .int .i64 0, .slice ai 0 ci, .slice at' 0 ct]] w fun e w' => Upd [] w w' ∧ ∃ T, e = .returned (.string (bs T)) ∧ IsText T z := by
 by_cases hz : z = 0
 ·subst hz
  have e : L = [] := HT.norm.nil_iff.2 rfl
  subst e
  refine (Text_zero a ai at' c ci ct neg w HT).mono ?_
  rintro e w' ⟨rfl, hU⟩
  exact ⟨hU, [48], rfl, [48], by simp, Or.inl ⟨rfl, rfl⟩⟩
 ·by_cases hn : z < 0
  ·have e : neg = true := by rw [HT.sgn]; simp [hn]
   refine (Text_neg a ai at' c ci ct neg L z w HT hz e).mono ?_
   rintro e w' ⟨hU, T, rfl, hT⟩
   exact ⟨hU, 45 :: T, rfl, T, by rw [if_pos hn], hT⟩
  ·have e : neg = false := by rw [HT.sgn]; simp [hn]
   refine (Text_pos a ai at' c ci ct neg L z w HT hz e).mono ?_
   rintro e w' ⟨hU, T, rfl, hT⟩
   exact ⟨hU, T, rfl, T, by rw [if_neg hn], hT⟩
end Go.Proofs.YtalhbbabijlngaaGreatDoor
namespace Go.Proofs.YtalhbbabijlngaaGreatDoor
open Go.RowKit
theorem cmpZ_lt {x y : Int} (h : x < y) : cmpZ x y = -1 := by unfold cmpZ; rw [if_pos h]
theorem cmpZ_gt {x y : Int} (h : y < x) : cmpZ x y = 1 := by unfold cmpZ; rw [if_neg (by omega), if_pos h]
set_option maxHeartbeats 400000 in
theorem cmpI_any (x y : Int) (w : World) :
  Calls Tryz.prog 116 #[.int .i64 x, .int .i64 y] w fun e w' => e = .returned (.int .i64 (cmpZ x y)) ∧ w' = w := by
 rcases Int.lt_trichotomy x y with h | h | h
 ·rw [cmpZ_lt h]
  go_enter Tryz.func116, Tryz.ntmps116
  go_wp2
  go_ret
  exact ⟨rfl, rfl⟩
 ·subst h
  rw [cmpZ_self]
  go_enter Tryz.func116, Tryz.ntmps116
  go_wp2
  go_ret
  exact ⟨rfl, rfl⟩
 ·rw [cmpZ_gt h]
  go_enter Tryz.func116, Tryz.ntmps116
  go_wp2
  go_ret
  exact ⟨rfl, rfl⟩
set_option maxHeartbeats 400000 in
theorem cmpK_any (x y : Int) (w : World) :
  Calls Tryz.prog 112 #[.int .u8 x, .int .u8 y] w fun e w' => e = .returned (.int .i64 (cmpZ x y)) ∧ w' = w := by
 rcases Int.lt_trichotomy x y with h | h | h
 ·rw [cmpZ_lt h]
  go_enter Tryz.func112, Tryz.ntmps112
  go_wp2
  go_ret
  exact ⟨rfl, rfl⟩
 ·subst h
  rw [cmpZ_self]
  go_enter Tryz.func112, Tryz.ntmps112
  go_wp2
  go_ret
  exact ⟨rfl, rfl⟩
 ·rw [cmpZ_gt h]
  go_enter Tryz.func112, Tryz.ntmps112
  go_wp2
  go_ret
  exact ⟨rfl, rfl⟩
theorem compare_lex (a b : List UInt8) : Lib.compareBytes a b = lexZ (a.map fun c => (c.toNat : Int)) (b.map fun c => (c.toNat : Int)) := by
 induction a generalizing b with
 | nil => cases b <;> rfl
 | cons x r ih =>
  cases b with
  | nil => rfl
  | cons y s =>
   simp only [Lib.compareBytes, List.map_cons, lexZ]
   by_cases h : x = y
   ·subst h
    rw [if_neg (UInt8.lt_irrefl x), if_neg (UInt8.lt_irrefl x), if_pos rfl, ih]
   ·have h2 : ¬ (x.toNat : Int) = (y.toNat : Int) := fun e => h (UInt8.toNat_inj.1 (by omega))
    rw [if_neg h2]
    by_cases hl : x < y
    ·have := UInt8.lt_iff_toNat_lt.1 hl
     rw [if_pos hl, cmpZ_lt (by omega)]
    ·have h3 : ¬ x.toNat < y.toNat := fun e => hl (UInt8.lt_iff_toNat_lt.2 e)
     rw [if_neg hl, if_pos (UInt8.lt_iff_toNat_lt.2 (by omega)), cmpZ_gt (by omega)]
theorem f_cmps : Tryz.prog.funcs[193]? = some Tryz.f193 := by kernel_rfl
theorem n_cmps : (Tryz.f193.name == "runtime.NumGoroutine") = false := by kernel_rfl
theorem b_cmps : Tryz.f193.body.isNone = true := by kernel_rfl
theorem x_cmps : Extern.findNext Tryz.f193 = none := by kernel_rfl
theorem e_cmps : Extern.find Tryz.f193 = some Extern.BytealgCompare.compare := by kernel_rfl
theorem run_cmps (a b : ByteArray) (w : World) : (callFunc 193 #[.string a, .string b]).run Tryz.prog w = .ok (.value (.int .i64 (lexZ (bz a) (bz b)))) w := by
 rw [run_callFunc_extern f_cmps n_cmps b_cmps x_cmps e_cmps, Lib.run_compareString, compare_lex]
 rfl
set_option maxHeartbeats 400000 in
theorem cmpS_any (a b : ByteArray) (w : World) :
  Calls Tryz.prog 114 #[.string a, .string b] w fun e w' => e = .returned (.int .i64 (lexZ (bz a) (bz b))) ∧ w' = w := by
 have hr := run_cmps a b w
 go_enter Tryz.func114, Tryz.ntmps114
 go_wp2
 go_ret
 exact ⟨rfl, rfl⟩
end Go.Proofs.YtalhbbabijlngaaGreatDoor
