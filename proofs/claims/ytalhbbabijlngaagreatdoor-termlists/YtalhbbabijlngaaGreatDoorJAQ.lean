/- 'append([]uint32{x}, xs...)'. -/
import Derived.Test.YtalhbbabijlngaaGreatDoorJAA
import Derived.Deep.AppendSrc
import Derived.Test.YtalhbbabijlngaaGreatDoorBitD
import Derived.Test.YtalhbbabijlngaaGreatDoorJAF
namespace Go.Proofs.YtalhbbabijlngaaGreatDoor
open Go.RowKit
theorem map_u32_get (M : List Nat) (j : Nat) (u : Value) (h : (M.map (fun n => Value.int .u32 (n : Nat)))[j]? = some u) : j < M.length ∧ u = .int .u32 (M.getD j 0 : Nat) := by
 rw [List.getElem?_map, Option.map_eq_some_iff] at h
 obtain ⟨n, h1, h2⟩ := h
 obtain ⟨hj, e⟩ := List.getElem?_eq_some_iff.1 h1
 exact ⟨hj, by rw [← h2, List.getD_eq_getElem?_getD, h1]; rfl⟩
theorem owns_at {w : World} {base n : Nat} {v : Value} {L : List Nat} (h : w.ownsRow base 47 1 v n (L.map (fun n => Value.int .u32 (n : Nat)))) (hv : v ≠ .slice none 0 0) :
  n = L.length ∧ ∃ g cap, v = .slice (some ⟨g, 0, none⟩) n cap ∧ base ≤ g ∧ n ≤ cap ∧ cap ≤ 9223372036854775807 ∧ At w (some ⟨g, 0, none⟩) L := by
 obtain ⟨hl, ⟨h1, _⟩ | ⟨g, cap, cur, hv', hb, hh, hc1, hc2, hcs, hcu⟩⟩ := h
 ·exact absurd h1 hv
 ·have hn : n = L.length := by simpa using hl.symm
  refine ⟨hn, g, cap, hv', hb, hc1, by unfold maxLen at hc2; omega, ?_⟩
  refine Or.inr ⟨g, 0, rfl, lt_of_block hh, fun i hi => ?_⟩
  rw [Nat.zero_add, cell_of_row w g i _ _ _ hh]
  have e : cur.toList[i]? = (cur.toList.take (n * 1))[i]? := by rw [List.getElem?_take_of_lt (by omega)]
  rw [← Array.getElem?_toList, e, hcu, List.getElem?_map, List.getElem?_eq_getElem hi, List.getD_eq_getElem?_getD, List.getElem?_eq_getElem hi]
  rfl
end Go.Proofs.YtalhbbabijlngaaGreatDoor
namespace Go.Proofs.YtalhbbabijlngaaGreatDoor
open Go.RowKit
def OU (w : World) (base : Nat) (v : Value) (X : List Nat) : Prop := w.ownsRow base 47 1 v X.length (X.map (fun n => Value.int .u32 (n : Nat)))
theorem OU.nil (w : World) (base : Nat) : OU w base (.slice none 0 0) [] := World.ownsRow_nil _ _ _ _
theorem OU.snoc {w : World} {base : Nat} {v : Value} {X : List Nat} (h : w.ownsRow base 47 1 v (X.length + 1) (X.map (fun n => Value.int .u32 (n : Nat)) ++ [.int .u32 0])) : OU w base v (X ++ [0]) := by
 unfold OU
 rw [List.map_append, List.length_append]
 exact h
theorem OU.there {w : World} {base : Nat} {v : Value} {X : List Nat} (h : OU w base v X) : ∃ a cap, v = .slice a X.length cap ∧ At w a X := by
 by_cases h0 : v = .slice none 0 0
 ·obtain ⟨hl, ⟨h1, h2⟩ | ⟨g, cap, cur, hv', _⟩⟩ := h
  ·have : X = [] := List.eq_nil_of_length_eq_zero h2
   subst this
   exact ⟨none, 0, h1, At.nil _ _⟩
  ·rw [h0] at hv'; cases hv'
 ·obtain ⟨_, g, cap, e, _, _, _, hat⟩ := owns_at h h0
  exact ⟨_, cap, e, hat⟩
theorem OU.set {w : World} {base g cap i x : Nat} {X : List Nat} (h : OU w base (.slice (some ⟨g, 0, none⟩) X.length cap) X) : OU (w.setCell ⟨g, i, none⟩ (.int .u32 (x : Nat))) base (.slice (some ⟨g, 0, none⟩) X.length cap) (X.set i x) := by
 obtain ⟨hl, ⟨h1, h2⟩ | ⟨g', cap', cur, hv', hb, hh, hc1, hc2, hcs, hcu⟩⟩ := h
 ·cases h1
 ·cases hv'
  refine ⟨by simp, Or.inr ⟨g, cap, cur.setIfInBounds i (.int .u32 (x : Nat)), by simp, hb, heap_setCell_same w g i _ _ _ hh, by simpa using hc1, hc2, by simpa using hcs, ?_⟩⟩
  rw [Array.toList_setIfInBounds, List.length_set, List.map_set]
  rw [← hcu, List.take_set]
theorem OU.open {w : World} {base : Nat} {v : Value} {X : List Nat} (h : OU w base v X) (hne : X ≠ []) :
  ∃ g cap, v = .slice (some ⟨g, 0, none⟩) X.length cap ∧ base ≤ g ∧ g < w.heap.size ∧ (∀ i, i < X.length → w.cell? ⟨g, i, none⟩ = some (.int .u32 (X.getD i 0 : Nat))) ∧ (∀ i, w.frozen? ⟨g, i, none⟩ = false) := by
 have hX : X.length ≠ 0 := fun e => hne (List.eq_nil_of_length_eq_zero e)
 have h' := h
 obtain ⟨hl, ⟨h1, h2⟩ | ⟨g, cap, cur, hv', hb, hh, hc1, hc2, hcs, hcu⟩⟩ := h
 ·exact absurd h2 hX
 ·have hv0 : v ≠ .slice none 0 0 := by rw [hv']; simp
  obtain ⟨_, g', cap', e, _, _, _, hat⟩ := owns_at h' hv0
  rw [hv'] at e
  cases e
  refine ⟨g, cap, hv', hb, lt_of_block hh, fun i hi => ?_, fun i => frozen_of_row w g i _ _ hh⟩
  rcases hat with h | ⟨b, o, e, _, hc⟩
  ·exact absurd h hne
  ·cases e
   have := hc i hi
   rwa [Nat.zero_add] at this
theorem Tb.grown {w w' : World} {base g : Nat} {cs : Array Value} {v : Value} {X : List Nat} {o : Obj} (h : Tb w g cs) (hO : OU w base v X) (hg : (w.alloc o).grownBy w' v.ownBlock) (hlt : g < base) : Tb w' g cs := by
 have h1 := h.old o
 refine (hg.block g h1.lt (fun e => ?_)).trans h1
 have := (World.ownsRow.lt hO g e.symm).1
 omega
theorem or_bit (x r : Nat) (hx : x < 2 ^ r) (hr : r < 32) : bits BinOp.or IntKind.u32 (x : Int) ((2 ^ r : Nat) : Int) = ((x + 2 ^ r : Nat) : Int) := by
 have h2 : 2 ^ r < 4294967296 := Nat.lt_of_lt_of_le (Nat.pow_lt_pow_right (by decide) hr) (by decide)
 rw [or_u32 x (2 ^ r) (by omega) h2, Nat.or_comm]
 have h := Nat.shiftLeft_add_eq_or_of_lt hx 1
 rw [Nat.shiftLeft_eq, Nat.one_mul] at h
 rw [← h, Nat.add_comm]
theorem limb_room (X : List Nat) (k : Nat) (hl : X.length = k / 32 + 1) (hv : val X < 2 ^ k) : X.getD (k / 32) 0 < 2 ^ (k % 32) := by
 have h1 := val_split X (k / 32) (by omega)
 rw [val_drop X (k / 32) (by omega), List.drop_of_length_le (by omega)] at h1
 have h2 : 4294967296 ^ (k / 32) * X.getD (k / 32) 0 < 4294967296 ^ (k / 32) * 2 ^ (k % 32) := by
  have e : 4294967296 ^ (k / 32) * 2 ^ (k % 32) = 2 ^ k := by
   rw [show (4294967296 : Nat) = 2 ^ 32 from rfl, ← Nat.pow_mul, ← Nat.pow_add, Nat.div_add_mod]
  rw [e]
  rw [val_nil, Nat.mul_zero, Nat.add_zero] at h1
  omega
 exact Nat.lt_of_mul_lt_mul_left h2
theorem bit_set (X : List Nat) (k : Nat) (hl : X.length = k / 32 + 1) : val (X.set (k / 32) (X.getD (k / 32) 0 + 2 ^ (k % 32))) = val X + 2 ^ k := by
 have h := val_set X (k / 32) (X.getD (k / 32) 0 + 2 ^ (k % 32)) (by omega)
 have e : 4294967296 ^ (k / 32) * 2 ^ (k % 32) = 2 ^ k := by
  rw [show (4294967296 : Nat) = 2 ^ 32 from rfl, ← Nat.pow_mul, ← Nat.pow_add, Nat.div_add_mod]
 rw [Nat.mul_add, e] at h
 omega
theorem OU.other {w : World} {base : Nat} {v : Value} {X : List Nat} {p : Addr} {u : Value} (h : OU w base v X) (hp : p.block < base) : OU (w.setCell p u) base v X := by
 obtain ⟨h0, h1 | ⟨g, cap, cur, hv, hb, hh, h2⟩⟩ := h
 ·exact ⟨h0, Or.inl h1⟩
 ·exact ⟨h0, Or.inr ⟨g, cap, cur, hv, hb, by rw [heap_setCell_other _ _ _ _ (by omega)]; exact hh, h2⟩⟩
theorem Tb.otherE {w : World} {g : Nat} {cs : Array Value} {p : Addr} {u : Value} (h : Tb w g cs) (hp : p.block ≠ g) : Tb (w.setCell p u) g cs := by
 unfold Tb
 rw [heap_setCell_other _ _ _ _ (fun e => hp e.symm)]; exact h
theorem Tb.put2 {w : World} {n : Nat} {k num : Int} {neg : Bool} {v2 v5 v6 u2 : Value} {s : ByteArray} (h : Tb w n #[.int .u8 k, .bool neg, v2, .string s, .int .i64 num, v5, v6]) :
  Tb (w.setCell ⟨n, 2, none⟩ u2) n #[.int .u8 k, .bool neg, u2, .string s, .int .i64 num, v5, v6] := by
 unfold Tb
 rw [heap_setCell_same w n 2 _ _ _ h]
 simp
theorem Dig.snoc0 {X : List Nat} (h : Dig X) : Dig (X ++ [0]) := fun x hx => by
 rcases List.mem_append.1 hx with h1 | h1
 ·exact h x h1
 ·simp at h1; omega
theorem val_snoc0 (X : List Nat) : val (X ++ [0]) = val X := by rw [val_append]; simp [val]
def MadeInv (W1 : World) (g : Nat) (ng : Bool) (M : List Bool) (i : Value) (wr : World) : Prop := ∃ k : Nat, ∃ X : List Nat, ∃ (a1 : Option Addr) (c1 : Nat), k ≤ M.length ∧ i = .int .i64 k ∧ OU wr W1.heap.size (.slice a1 X.length c1) X ∧ Tb wr g #[.int .u8 1, .bool ng, .slice a1 X.length c1, .string ⟨#[]⟩, .int .i64 0, .slice none 0 0, .slice none 0 0] ∧ X.length = (k + 31) / 32 ∧ Dig X ∧ val X = nb (M.take k) ∧ Upd [g] W1 wr
theorem MadeInv.drew {W1 w : World} {g : Nat} {ng : Bool} {M : List Bool} {i : Value} (h : MadeInv W1 g ng M i w) : MadeInv W1 g ng M i w.drew := by
 obtain ⟨k, X, a1, c1, h1, h2, h3, h4, h5, h6, h7, h8⟩ := h
 exact ⟨k, X, a1, c1, h1, h2, h3, h4, h5, h6, h7, h8.drew⟩
theorem MadeInv.skip {W1 w : World} {g k : Nat} {ng : Bool} {M : List Bool} {X : List Nat} {a1 : Option Addr} {c1 : Nat} (hU : Upd [g] W1 w) (ht : Tb w g #[.int .u8 1, .bool ng, .slice a1 X.length c1, .string ⟨#[]⟩, .int .i64 0, .slice none 0 0, .slice none 0 0]) (hO : OU w W1.heap.size (.slice a1 X.length c1) X) (hk : k < M.length) (hl : X.length = (k + 1 + 31) / 32) (dX : Dig X) (hv : val X = nb (M.take k)) (hy : false = M.getD k false) :
  MadeInv W1 g ng M (.int .i64 ((k : Int) + 1)) w := by
 refine ⟨k + 1, X, a1, c1, by omega, by simp, hO, ht, hl, dX, ?_, hU⟩
 rw [nb_take, ← hy, hv]; simp
theorem MadeInv.put {W1 w2 : World} {g g2 cap2 k : Nat} {ng y : Bool} {M : List Bool} {Z : List Nat} {a1 : Option Addr} {n1 c1 : Nat} (hU : Upd [g] W1 w2) (ht : Tb w2 g #[.int .u8 1, .bool ng, .slice a1 n1 c1, .string ⟨#[]⟩, .int .i64 0, .slice none 0 0, .slice none 0 0]) (hO : OU w2 W1.heap.size (.slice (some ⟨g2, 0, none⟩) Z.length cap2) Z)
  (n : Nat) (hn : n = Z.length) (hg : g < W1.heap.size) (hk : k < M.length) (hl : Z.length = k / 32 + 1) (dZ : Dig Z) (hv : val Z = nb (M.take k)) (hy : y = M.getD k false) (h0 : y = false) :
  MadeInv W1 g ng M (.int .i64 ((k : Int) + 1)) (w2.setCell ⟨g, 2, none⟩ (.slice (some ⟨g2, 0, none⟩) n cap2)) := by
 subst hn h0
 refine ⟨k + 1, Z, some ⟨g2, 0, none⟩, cap2, by omega, by simp, hO.other hg, ht.put2, by omega, dZ, ?_, hU.setCell (Or.inr (by simp)) _⟩
 rw [nb_take, ← hy, hv]; simp
theorem MadeInv.bit {W1 w2 : World} {g g2 cap2 k v : Nat} {ng : Bool} {M : List Bool} {Z : List Nat} (hU : Upd [g] W1 w2) (ht : Tb w2 g #[.int .u8 1, .bool ng, .slice (some ⟨g2, 0, none⟩) Z.length cap2, .string ⟨#[]⟩, .int .i64 0, .slice none 0 0, .slice none 0 0]) (hO : OU w2 W1.heap.size (.slice (some ⟨g2, 0, none⟩) Z.length cap2) Z)
  (hg : g < W1.heap.size) (hg2 : W1.heap.size ≤ g2) (hk : k < M.length) (hl : Z.length = k / 32 + 1) (dZ : Dig Z) (hv : val Z = nb (M.take k)) (hy : true = M.getD k false) (hq : v = Z.getD (k / 32) 0 + 2 ^ (k % 32)) (hv2 : v < 4294967296) :
  MadeInv W1 g ng M (.int .i64 ((k : Int) + 1)) (w2.setCell ⟨g2, k / 32, none⟩ (.int .u32 (v : Nat))) := by
 refine ⟨k + 1, Z.set (k / 32) v, some ⟨g2, 0, none⟩, cap2, by omega, by simp, ?_, ?_, by rw [List.length_set]; omega, dZ.set _ _ hv2, ?_, hU.setCell (Or.inl hg2) _⟩
 ·rw [List.length_set]; exact hO.set
 ·rw [List.length_set]; exact ht.otherE (by show g2 ≠ g; omega)
 ·rw [nb_take, ← hy, hq, bit_set Z k hl, hv]; simp
theorem norm_of_bits {X : List Nat} {M : List Bool} {n : Nat} (dX : Dig X) (hv : val X = n) (nM : NormB M n) (hl : X.length = (M.length + 31) / 32) : Norm X n := by
 refine ⟨dX, hv, fun x hx h0 => ?_⟩
 subst h0
 have hne : X ≠ [] := fun e => by rw [e] at hx; simp at hx
 have hX : X.length ≠ 0 := fun e => hne (List.eq_nil_of_length_eq_zero e)
 have hM : M ≠ [] := fun e => by rw [e, List.length_nil] at hl; omega
 have h1 : X = X.dropLast ++ [0] := by
  have h2 := List.getLast?_eq_some_getLast hne
  rw [hx] at h2
  have h3 := (List.dropLast_concat_getLast hne).symm
  rw [← Option.some.inj h2] at h3
  exact h3
 have h2 : val X = val X.dropLast := by
  have := val_snoc0 X.dropLast
  rw [← h1] at this
  exact this
 have h3 : val X.dropLast < 4294967296 ^ X.dropLast.length := val_lt (fun y hy => dX y (List.dropLast_subset X hy))
 rw [List.length_dropLast] at h3
 have h4 := nM.low hM
 have h5 : 4294967296 ^ (X.length - 1) ≤ 2 ^ (M.length - 1) := by
  rw [show (4294967296 : Nat) = 2 ^ 32 from rfl, ← Nat.pow_mul]
  exact Nat.pow_le_pow_right (by decide) (by omega)
 omega
end Go.Proofs.YtalhbbabijlngaaGreatDoor
