/- 'append([]uint32{x}, xs...)'. -/
import Derived.Test.YtabknipgbmdipaaGreatDoorJAA
import Derived.Deep.AppendSrc
import Derived.Test.YtabknipgbmdipaaGreatDoorBitD
import Derived.Test.YtabknipgbmdipaaGreatDoorJAG

namespace Go.Proofs.YtabknipgbmdipaaGreatDoor
open Go.RowKit

theorem Blk.owns {w : World} {g : Nat} {X : List Nat} (h : Blk w g X) (hl : X.length ≤ 100000) : w.ownsRow g 47 1 (.slice (some ⟨g, 0, none⟩) X.length X.length) X.length (X.map (fun n => Value.int .u32 (n : Nat))) :=
  ⟨by simp, Or.inr ⟨g, X.length, u32s X, rfl, Nat.le_refl _, h, Nat.le_refl _, by unfold maxLen; omega, by simp [u32s], by rw [Nat.mul_one, List.take_of_length_le (by simp [u32s])]; simp [u32s]⟩⟩

theorem map_u32_get (M : List Nat) (j : Nat) (u : Value) (h : (M.map (fun n => Value.int .u32 (n : Nat)))[j]? = some u) : j < M.length ∧ u = .int .u32 (M.getD j 0 : Nat) := by
  rw [List.getElem?_map, Option.map_eq_some_iff] at h
  obtain ⟨n, h1, h2⟩ := h
  obtain ⟨hj, e⟩ := List.getElem?_eq_some_iff.1 h1
  exact ⟨hj, by rw [← h2, List.getD_eq_getElem?_getD, h1]; rfl⟩

/-- What is owned is there. -/
theorem owns_at {w : World} {base n : Nat} {v : Value} {L : List Nat} (h : w.ownsRow base 47 1 v n (L.map (fun n => Value.int .u32 (n : Nat)))) (hv : v ≠ .slice none 0 0) :
    n = L.length ∧ ∃ g cap, v = .slice (some ⟨g, 0, none⟩) n cap ∧ base ≤ g ∧ n ≤ cap ∧ cap ≤ 9223372036854775807 ∧ At w (some ⟨g, 0, none⟩) L := by
  obtain ⟨hl, ⟨h1, _⟩ | ⟨g, cap, cur, hv', hb, hh, hc1, hc2, hcs, hcu⟩⟩ := h
  · exact absurd h1 hv
  · have hn : n = L.length := by simpa using hl.symm
    refine ⟨hn, g, cap, hv', hb, hc1, by unfold maxLen at hc2; omega, ?_⟩
    refine Or.inr ⟨g, 0, rfl, lt_of_block hh, fun i hi => ?_⟩
    rw [Nat.zero_add, cell_of_row w g i _ _ _ hh]
    have e : cur.toList[i]? = (cur.toList.take (n * 1))[i]? := by rw [List.getElem?_take_of_lt (by omega)]
    rw [← Array.getElem?_toList, e, hcu, List.getElem?_map, List.getElem?_eq_getElem hi, List.getD_eq_getElem?_getD, List.getElem?_eq_getElem hi]
    rfl

end Go.Proofs.YtabknipgbmdipaaGreatDoor

/- made of the reference, by its contract. -/
namespace Go.Proofs.YtabknipgbmdipaaGreatDoor
open Go.RowKit

/-- Limbs that are the call's own. -/
def OU (w : World) (base : Nat) (v : Value) (X : List Nat) : Prop := w.ownsRow base 47 1 v X.length (X.map (fun n => Value.int .u32 (n : Nat)))
theorem OU.nil (w : World) (base : Nat) : OU w base (.slice none 0 0) [] := World.ownsRow_nil _ _ _ _
theorem OU.snoc {w : World} {base : Nat} {v : Value} {X : List Nat} (h : w.ownsRow base 47 1 v (X.length + 1) (X.map (fun n => Value.int .u32 (n : Nat)) ++ [.int .u32 0])) : OU w base v (X ++ [0]) := by
  unfold OU
  rw [List.map_append, List.length_append]
  exact h
theorem OU.there {w : World} {base : Nat} {v : Value} {X : List Nat} (h : OU w base v X) : ∃ a cap, v = .slice a X.length cap ∧ At w a X := by
  by_cases h0 : v = .slice none 0 0
  · obtain ⟨hl, ⟨h1, h2⟩ | ⟨g, cap, cur, hv', _⟩⟩ := h
    · have : X = [] := List.eq_nil_of_length_eq_zero h2
      subst this
      exact ⟨none, 0, h1, At.nil _ _⟩
    · rw [h0] at hv'; cases hv'
  · obtain ⟨_, g, cap, e, _, _, _, hat⟩ := owns_at h h0
    exact ⟨_, cap, e, hat⟩
theorem OU.set {w : World} {base g cap i x : Nat} {X : List Nat} (h : OU w base (.slice (some ⟨g, 0, none⟩) X.length cap) X) : OU (w.setCell ⟨g, i, none⟩ (.int .u32 (x : Nat))) base (.slice (some ⟨g, 0, none⟩) X.length cap) (X.set i x) := by
  obtain ⟨hl, ⟨h1, h2⟩ | ⟨g', cap', cur, hv', hb, hh, hc1, hc2, hcs, hcu⟩⟩ := h
  · cases h1
  · cases hv'
    refine ⟨by simp, Or.inr ⟨g, cap, cur.setIfInBounds i (.int .u32 (x : Nat)), by simp, hb, heap_setCell_same w g i _ _ _ hh, by simpa using hc1, hc2, by simpa using hcs, ?_⟩⟩
    rw [Array.toList_setIfInBounds, List.length_set, List.map_set]
    rw [← hcu, List.take_set]
theorem OU.open {w : World} {base : Nat} {v : Value} {X : List Nat} (h : OU w base v X) (hne : X ≠ []) :
    ∃ g cap, v = .slice (some ⟨g, 0, none⟩) X.length cap ∧ base ≤ g ∧ g < w.heap.size ∧ (∀ i, i < X.length → w.cell? ⟨g, i, none⟩ = some (.int .u32 (X.getD i 0 : Nat))) ∧ (∀ i, w.frozen? ⟨g, i, none⟩ = false) := by
  have hX : X.length ≠ 0 := fun e => hne (List.eq_nil_of_length_eq_zero e)
  have h' := h
  obtain ⟨hl, ⟨h1, h2⟩ | ⟨g, cap, cur, hv', hb, hh, hc1, hc2, hcs, hcu⟩⟩ := h
  · exact absurd h2 hX
  · have hv0 : v ≠ .slice none 0 0 := by rw [hv']; simp
    obtain ⟨_, g', cap', e, _, _, _, hat⟩ := owns_at h' hv0
    rw [hv'] at e
    cases e
    refine ⟨g, cap, hv', hb, lt_of_block hh, fun i hi => ?_, fun i => frozen_of_row w g i _ _ hh⟩
    rcases hat with h | ⟨b, o, e, _, hc⟩
    · exact absurd h hne
    · cases e
      have := hc i hi
      rwa [Nat.zero_add] at this
theorem Tb.grown {w w' : World} {base g : Nat} {cs : Array Value} {v : Value} {X : List Nat} {o : Obj} (h : Tb w g cs) (hO : OU w base v X) (hg : (w.alloc o).grownBy w' v.ownBlock) (hlt : g < base) : Tb w' g cs := by
  have h1 := h.old o
  refine (hg.block g h1.lt (fun e => ?_)).trans h1
  have := (World.ownsRow.lt hO g e.symm).1
  omega

theorem or_bit (x r : Nat) (hx : x < 2 ^ r) (hr : r < 32) : bits BinOp.or IntKind.u32 (x : Int) ((2 ^ r : Nat) : Int) = ((x + 2 ^ r : Nat) : Int) := by
  have h2 : 2 ^ r < 4294967296 := Nat.lt_of_lt_of_le (Nat.pow_lt_pow_right (by decide) hr) (by decide)
  rw [or_u32 x (2 ^ r) (by omega) h2, Nat.or_comm]
  have h := Nat.shiftLeft_add_eq_or_of_lt hx 1
  rw [Nat.shiftLeft_eq, Nat.one_mul] at h
  rw [← h, Nat.add_comm]

/-- The limb that the next bit goes into has room for it. -/
theorem limb_room (X : List Nat) (k : Nat) (hl : X.length = k / 32 + 1) (hv : val X < 2 ^ k) : X.getD (k / 32) 0 < 2 ^ (k % 32) := by
  have h1 := val_split X (k / 32) (by omega)
  rw [val_drop X (k / 32) (by omega), List.drop_of_length_le (by omega)] at h1
  have h2 : 4294967296 ^ (k / 32) * X.getD (k / 32) 0 < 4294967296 ^ (k / 32) * 2 ^ (k % 32) := by
    have e : 4294967296 ^ (k / 32) * 2 ^ (k % 32) = 2 ^ k := by
      rw [show (4294967296 : Nat) = 2 ^ 32 from rfl, ← Nat.pow_mul, ← Nat.pow_add, Nat.div_add_mod]
    rw [e]
    rw [val_nil, Nat.mul_zero, Nat.add_zero] at h1
    omega
  exact Nat.lt_of_mul_lt_mul_left h2
theorem bit_set (X : List Nat) (k : Nat) (hl : X.length = k / 32 + 1) : val (X.set (k / 32) (X.getD (k / 32) 0 + 2 ^ (k % 32))) = val X + 2 ^ k := by
  have h := val_set X (k / 32) (X.getD (k / 32) 0 + 2 ^ (k % 32)) (by omega)
  have e : 4294967296 ^ (k / 32) * 2 ^ (k % 32) = 2 ^ k := by
    rw [show (4294967296 : Nat) = 2 ^ 32 from rfl, ← Nat.pow_mul, ← Nat.pow_add, Nat.div_add_mod]
  rw [Nat.mul_add, e] at h
  omega

set_option maxHeartbeats 4000000 in
set_option maxRecDepth 100000 in
theorem made_big (a : Option Addr) (c : Nat) (neg : Bool) (L : List Bool) (w : World) (hL : L.length ≤ 5000) (hc : L.length ≤ c) (hc2 : c ≤ 9223372036854775807) (HL : BA w a L) (hbig : ¬ nb L < 2 ^ 1024) :
    Calls Tryz.prog 126 #[.slice a L.length c, .bool neg] w fun e w' => e = .returned (.tuple #[(.agg #[.int .u8 0, .bool false, .slice none 0 0, .string ⟨#[]⟩, .int .i64 0, .slice none 0 0, .slice none 0 0]), .bool false]) ∧ Upd [] w w' := by
  have HBIG : Hid (¬ nb L < 2 ^ 1024) := hbig
  clear hbig
  go_enter Tryz.func126, Tryz.ntmps126
  go_wp2_with fail
  have u0 := (Upd.refl [] w).alloc (.cells #[.int .u8 0, .bool false, .slice none 0 0, .string ⟨#[]⟩, .int .i64 0, .slice none 0 0, .slice none 0 0] 26)
  have t0 := Tb.new w #[.int .u8 0, .bool false, .slice none 0 0, .string ⟨#[]⟩, .int .i64 0, .slice none 0 0, .slice none 0 0] _ rfl
  refine (cut_any a c L _ (by omega) hc hc2 (HL.mono u0)).mono ?_
  rintro e w1 ⟨hw1, c1, M, rfl, nM, hM, hMl, hd1, hd2⟩
  have hlen : 1024 < M.length := by
    rcases Nat.lt_or_ge 1024 M.length with h | h
    · exact h
    · exact absurd ((nM.len_le 1024).1 h) HBIG.out
  rw [hw1]
  have hd : decide ((M.length : Int) > 1024) = true := by simp; omega
  clear hw1 nM hM HBIG
  go_wp2_with (refine store_V _ rfl _ _ rfl _ _ _ _ _ _ _ _ _ _ _ _ _ _ _ rfl rfl t0 rfl ?_; intro w3 hT3 hU3)
  exact ret_Tb Tryz.results126 rfl _ _ _ rfl hT3 rfl rfl ⟨rfl, u0.then hU3 (by simp)⟩

/-- The loop of made. -/
theorem OU.other {w : World} {base : Nat} {v : Value} {X : List Nat} {p : Addr} {u : Value} (h : OU w base v X) (hp : p.block < base) : OU (w.setCell p u) base v X := by
  obtain ⟨h0, h1 | ⟨g, cap, cur, hv, hb, hh, h2⟩⟩ := h
  · exact ⟨h0, Or.inl h1⟩
  · exact ⟨h0, Or.inr ⟨g, cap, cur, hv, hb, by rw [heap_setCell_other _ _ _ _ (by omega)]; exact hh, h2⟩⟩
theorem Tb.otherE {w : World} {g : Nat} {cs : Array Value} {p : Addr} {u : Value} (h : Tb w g cs) (hp : p.block ≠ g) : Tb (w.setCell p u) g cs := by
  unfold Tb
  rw [heap_setCell_other _ _ _ _ (fun e => hp e.symm)]; exact h
theorem Tb.put2 {w : World} {n : Nat} {k num : Int} {neg : Bool} {v2 v5 v6 u2 : Value} {s : ByteArray} (h : Tb w n #[.int .u8 k, .bool neg, v2, .string s, .int .i64 num, v5, v6]) :
    Tb (w.setCell ⟨n, 2, none⟩ u2) n #[.int .u8 k, .bool neg, u2, .string s, .int .i64 num, v5, v6] := by
  unfold Tb
  rw [heap_setCell_same w n 2 _ _ _ h]
  simp
theorem Dig.snoc0 {X : List Nat} (h : Dig X) : Dig (X ++ [0]) := fun x hx => by
  rcases List.mem_append.1 hx with h1 | h1
  · exact h x h1
  · simp at h1; omega
theorem val_snoc0 (X : List Nat) : val (X ++ [0]) = val X := by rw [val_append]; simp [val]

def MadeInv (W1 : World) (g : Nat) (ng : Bool) (M : List Bool) (i : Value) (wr : World) : Prop := ∃ k : Nat, ∃ X : List Nat, ∃ (a1 : Option Addr) (c1 : Nat), k ≤ M.length ∧ i = .int .i64 k ∧ OU wr W1.heap.size (.slice a1 X.length c1) X ∧ Tb wr g #[.int .u8 1, .bool ng, .slice a1 X.length c1, .string ⟨#[]⟩, .int .i64 0, .slice none 0 0, .slice none 0 0] ∧ X.length = (k + 31) / 32 ∧ Dig X ∧ val X = nb (M.take k) ∧ Upd [g] W1 wr

theorem MadeInv.drew {W1 w : World} {g : Nat} {ng : Bool} {M : List Bool} {i : Value} (h : MadeInv W1 g ng M i w) : MadeInv W1 g ng M i w.drew := by
  obtain ⟨k, X, a1, c1, h1, h2, h3, h4, h5, h6, h7, h8⟩ := h
  exact ⟨k, X, a1, c1, h1, h2, h3, h4, h5, h6, h7, h8.drew⟩
theorem MadeInv.skip {W1 w : World} {g k : Nat} {ng : Bool} {M : List Bool} {X : List Nat} {a1 : Option Addr} {c1 : Nat} (hU : Upd [g] W1 w) (ht : Tb w g #[.int .u8 1, .bool ng, .slice a1 X.length c1, .string ⟨#[]⟩, .int .i64 0, .slice none 0 0, .slice none 0 0]) (hO : OU w W1.heap.size (.slice a1 X.length c1) X) (hk : k < M.length) (hl : X.length = (k + 1 + 31) / 32) (dX : Dig X) (hv : val X = nb (M.take k)) (hy : false = M.getD k false) :
    MadeInv W1 g ng M (.int .i64 ((k : Int) + 1)) w := by
  refine ⟨k + 1, X, a1, c1, by omega, by simp, hO, ht, hl, dX, ?_, hU⟩
  rw [nb_take, ← hy, hv]; simp
theorem MadeInv.put {W1 w2 : World} {g g2 cap2 k : Nat} {ng y : Bool} {M : List Bool} {Z : List Nat} {a1 : Option Addr} {n1 c1 : Nat} (hU : Upd [g] W1 w2) (ht : Tb w2 g #[.int .u8 1, .bool ng, .slice a1 n1 c1, .string ⟨#[]⟩, .int .i64 0, .slice none 0 0, .slice none 0 0]) (hO : OU w2 W1.heap.size (.slice (some ⟨g2, 0, none⟩) Z.length cap2) Z)
    (n : Nat) (hn : n = Z.length) (hg : g < W1.heap.size) (hk : k < M.length) (hl : Z.length = k / 32 + 1) (dZ : Dig Z) (hv : val Z = nb (M.take k)) (hy : y = M.getD k false) (h0 : y = false) :
    MadeInv W1 g ng M (.int .i64 ((k : Int) + 1)) (w2.setCell ⟨g, 2, none⟩ (.slice (some ⟨g2, 0, none⟩) n cap2)) := by
  subst hn h0
  refine ⟨k + 1, Z, some ⟨g2, 0, none⟩, cap2, by omega, by simp, hO.other hg, ht.put2, by omega, dZ, ?_, hU.setCell (Or.inr (by simp)) _⟩
  rw [nb_take, ← hy, hv]; simp
theorem MadeInv.bit {W1 w2 : World} {g g2 cap2 k v : Nat} {ng : Bool} {M : List Bool} {Z : List Nat} (hU : Upd [g] W1 w2) (ht : Tb w2 g #[.int .u8 1, .bool ng, .slice (some ⟨g2, 0, none⟩) Z.length cap2, .string ⟨#[]⟩, .int .i64 0, .slice none 0 0, .slice none 0 0]) (hO : OU w2 W1.heap.size (.slice (some ⟨g2, 0, none⟩) Z.length cap2) Z)
    (hg : g < W1.heap.size) (hg2 : W1.heap.size ≤ g2) (hk : k < M.length) (hl : Z.length = k / 32 + 1) (dZ : Dig Z) (hv : val Z = nb (M.take k)) (hy : true = M.getD k false) (hq : v = Z.getD (k / 32) 0 + 2 ^ (k % 32)) (hv2 : v < 4294967296) :
    MadeInv W1 g ng M (.int .i64 ((k : Int) + 1)) (w2.setCell ⟨g2, k / 32, none⟩ (.int .u32 (v : Nat))) := by
  refine ⟨k + 1, Z.set (k / 32) v, some ⟨g2, 0, none⟩, cap2, by omega, by simp, ?_, ?_, by rw [List.length_set]; omega, dZ.set _ _ hv2, ?_, hU.setCell (Or.inl hg2) _⟩
  · rw [List.length_set]; exact hO.set
  · rw [List.length_set]; exact ht.otherE (by show g2 ≠ g; omega)
  · rw [nb_take, ← hy, hq, bit_set Z k hl, hv]; simp

set_option maxHeartbeats 4000000 in
set_option maxRecDepth 100000 in
theorem made_fitfalse (a : Option Addr) (c : Nat) (L : List Bool) (w : World) (hL : L.length ≤ 5000) (hc : L.length ≤ c) (hc2 : c ≤ 9223372036854775807) (HL : BA w a L) (hfit : nb L < 2 ^ 1024) :
    Calls Tryz.prog 126 #[.slice a L.length c, .bool false] w fun e w' => Upd [] w w' ∧ ∃ M X ng a' c', e = .returned (.tuple #[.agg #[.int .u8 1, .bool ng, .slice a' X.length c', .string ⟨#[]⟩, .int .i64 0, .slice none 0 0, .slice none 0 0], .bool true]) ∧ NormB M (nb L) ∧ ng = (false && decide (0 < M.length)) ∧ At w' a' X ∧ Dig X ∧ val X = nb L ∧ X.length = (M.length + 31) / 32 := by
  obtain ⟨i0, hi, hz0, hz1, hz2⟩ := info_parts info_u32
  go_enter Tryz.func126, Tryz.ntmps126
  go_wp2_with fail
  have u0 := (Upd.refl [] w).alloc (.cells #[.int .u8 0, .bool false, .slice none 0 0, .string ⟨#[]⟩, .int .i64 0, .slice none 0 0, .slice none 0 0] 26)
  have t0 := Tb.new w #[.int .u8 0, .bool false, .slice none 0 0, .string ⟨#[]⟩, .int .i64 0, .slice none 0 0, .slice none 0 0] _ rfl
  refine (cut_any a c L _ (by omega) hc hc2 (HL.mono u0)).mono ?_
  rintro e w1 ⟨hw1, c1, M, rfl, nM, hM, hMl, hd1, hd2⟩
  have hlen : M.length ≤ 1024 := (nM.len_le 1024).2 hfit
  rw [hw1]
  have hd : decide ((M.length : Int) > 1024) = false := by simp; omega
  clear hw1 hfit
  obtain ⟨W0, hW0⟩ : ∃ x, x = w.alloc (.cells #[.int .u8 0, .bool false, .slice none 0 0, .string ⟨#[]⟩, .int .i64 0, .slice none 0 0, .slice none 0 0] 26) := ⟨_, rfl⟩
  have hsz0 : W0.heap.size = w.heap.size + 1 := by rw [hW0]; simp
  rw [← hW0] at u0 t0 hM ⊢
  have HNM : Hid _ := nM
  have HMM : Hid (BA W0 a M) := hM
  skip
  clear nM hW0 hM
  go_wp2_with fail
  skip
  have u1 := (Upd.refl [] W0).alloc (.cells #[.int .u8 1, .bool false, .slice none 0 0, .string ⟨#[]⟩, .int .i64 0, .slice none 0 0, .slice none 0 0] 26)
  have t1 := Tb.new W0 #[.int .u8 1, .bool false, .slice none 0 0, .string ⟨#[]⟩, .int .i64 0, .slice none 0 0, .slice none 0 0] (w.heap.size + 1) hsz0.symm
  have t01 := t0.old (.cells #[.int .u8 1, .bool false, .slice none 0 0, .string ⟨#[]⟩, .int .i64 0, .slice none 0 0, .slice none 0 0] 26)
  obtain ⟨W1, hW1⟩ : ∃ x, x = W0.alloc (.cells #[.int .u8 1, .bool false, .slice none 0 0, .string ⟨#[]⟩, .int .i64 0, .slice none 0 0, .slice none 0 0] 26) := ⟨_, rfl⟩
  have hsz1 : W1.heap.size = w.heap.size + 2 := by rw [hW1]; simp [hsz0]
  rw [← hW1] at u1 t1 t01 ⊢
  clear hW1 t0
  go_loopw [7] (MadeInv W1 (w.heap.size + 1) false M) (fun i _ => M.length - (intOf i).toNat)
  case atStart => exact ⟨0, [], none, 0, Nat.zero_le _, rfl, OU.nil _ _, t1, rfl, fun x hx => by simp at hx, by simp [val, nb], Upd.refl _ _⟩
  case round =>
    obtain ⟨k, X, a1, c1', hk, rfl, hO, ht, hXl, dX, hXv, hU⟩ := hrel
    have HXL : Hid (X.length = (k + 31) / 32) := hXl
    have HXV : Hid (val X = nb (M.take k)) := hXv
    clear hXl hXv
    by_cases hk2 : k < M.length
    · rcases HMM.out with h | ⟨b, o, rfl, hltb, hcM⟩
      · rw [h] at hk2; simp at hk2
      obtain ⟨y, hy⟩ : ∃ y, y = M.getD k false := ⟨_, rfl⟩
      have HY : Hid (y = M.getD k false) := hy
      have HC : Hid (∀ W, Upd [w.heap.size + 1] W1 W → W.cell? ⟨b, o + k, none⟩ = some (.bool y)) := fun W hu => by
        rw [hy]
        exact (hu.cell (p := ⟨b, o + k, none⟩) (show b < W1.heap.size by omega) (by simp; omega)).trans ((u1.cell (p := ⟨b, o + k, none⟩) hltb (by simp)).trans (hcM k hk2))
      have hne : (b = w.heap.size + 1) = False := eq_false (by omega)
      have hcl := HC.out wr hU
      have c2 : wr.cell? ⟨w.heap.size + 1, 2, none⟩ = some (.slice a1 X.length c1') := ht.cell 2
      have hXlen : X.length ≤ 33 := by rw [HXL.out]; omega
      have hown : wr.ownsRow W1.heap.size 47 1 _ X.length (X.map (fun n => Value.int .u32 (n : Nat))) := hO
      have hszr := hU.size
      have HO : Hid (OU wr W1.heap.size (.slice a1 X.length c1') X) := hO
      have HT : Hid _ := ht
      have HU : Hid _ := hU
      clear hy hcM hO ht hU
      by_cases hr : k % 32 = 0
      · have HQ : Hid (X.length = k / 32) := by show X.length = k / 32; rw [HXL.out]; omega
        cases y
        · go_wp2_with (at_builtin; refine wpList_append_own _ rfl _ _ 23 rfl W1.heap.size 47 i0 (.int .u32 0) 1 4 Tryz.underlying23 hi hz0 hz1 hz2 rfl (by decide) _ _ _ rfl (hown.alloc _) ⟨wr.heap.size, 0, none⟩ 1 1 [.int .u32 0] rfl rfl (cell_one_new _ _ _) (by intro u hu; simp at hu; subst hu; rfl) (by unfold maxLen; omega) (by omega) (by simp; omega) ?_; intro v' w2 hown' hgrow _; obtain ⟨g2, cap2, rfl, hb2, hlt2, hcc2, hff2⟩ := OU.open (OU.snoc hown') (by simp); have ht2 := Tb.grown (Hid.out HT) (Hid.out HO) hgrow (by omega); have hU2 := ((Hid.out HU).alloc (.cells #[.int .u32 0] 47)).grown hgrow (fun k hk => Or.inl (World.ownsRow.lt (Hid.out HO) k hk).1); have c22 : w2.cell? ⟨w.heap.size + 1, 2, none⟩ = some (.slice a1 X.length c1') := ht2.cell 2; have f22 : w2.frozen? ⟨w.heap.size + 1, 2, none⟩ = false := frozen_of_row w2 _ 2 _ _ ht2; have hcl2 := HC.out w2 hU2)
          exact ⟨MadeInv.put hU2 ht2 (OU.snoc hown') _ (by simp) (by omega) hk2 (by rw [List.length_append, HQ.out]; rfl) (dX.snoc0) (by rw [val_snoc0, HXV.out]) HY.out rfl, by simp [intOf]; omega⟩
        · go_wp2_with (at_builtin; refine wpList_append_own _ rfl _ _ 23 rfl W1.heap.size 47 i0 (.int .u32 0) 1 4 Tryz.underlying23 hi hz0 hz1 hz2 rfl (by decide) _ _ _ rfl (hown.alloc _) ⟨wr.heap.size, 0, none⟩ 1 1 [.int .u32 0] rfl rfl (cell_one_new _ _ _) (by intro u hu; simp at hu; subst hu; rfl) (by unfold maxLen; omega) (by omega) (by simp; omega) ?_; intro v' w2 hown' hgrow _; obtain ⟨g2, cap2, rfl, hb2, hlt2, hcc2, hff2⟩ := OU.open (OU.snoc hown') (by simp); have ht2 := Tb.grown (Hid.out HT) (Hid.out HO) hgrow (by omega); have hU2 := ((Hid.out HU).alloc (.cells #[.int .u32 0] 47)).grown hgrow (fun k hk => Or.inl (World.ownsRow.lt (Hid.out HO) k hk).1); have c22 : w2.cell? ⟨w.heap.size + 1, 2, none⟩ = some (.slice a1 X.length c1') := ht2.cell 2; have f22 : w2.frozen? ⟨w.heap.size + 1, 2, none⟩ = false := frozen_of_row w2 _ 2 _ _ ht2; have hcl2 := HC.out w2 hU2)
          obtain ⟨Z, hZ⟩ : ∃ Z, Z = X ++ [0] := ⟨_, rfl⟩
          have hOZ := (OU.snoc hown').other (p := ⟨w.heap.size + 1, 2, none⟩) (u := .slice (some ⟨g2, 0, none⟩) (X.length + 1) cap2) (show w.heap.size + 1 < W1.heap.size by omega)
          have htZ := ht2.put2 (u2 := .slice (some ⟨g2, 0, none⟩) (X.length + 1) cap2)
          have hUZ := hU2.setCell (p := ⟨w.heap.size + 1, 2, none⟩) (Or.inr (by simp)) (.slice (some ⟨g2, 0, none⟩) (X.length + 1) cap2)
          have HZL : Hid (Z.length = k / 32 + 1) := by show Z.length = _; rw [hZ, List.length_append, HQ.out]; rfl
          have HZV : Hid (val Z = nb (M.take k)) := by show val Z = _; rw [hZ, val_snoc0, HXV.out]
          have dZ : Dig Z := by rw [hZ]; exact dX.snoc0
          obtain ⟨n, hn⟩ : ∃ n, n = X.length + 1 := ⟨_, rfl⟩
          have hnZ : n = Z.length := by rw [hZ, hn]; simp
          rw [← hn] at hOZ htZ hUZ ⊢
          obtain ⟨wv, hwv⟩ : ∃ x, x = w2.setCell ⟨w.heap.size + 1, 2, none⟩ (.slice (some ⟨g2, 0, none⟩) n cap2) := ⟨_, rfl⟩
          rw [← hwv] at hOZ htZ hUZ ⊢
          rw [← hZ, ← hnZ] at hOZ
          have c2v : wv.cell? ⟨w.heap.size + 1, 2, none⟩ = some (.slice (some ⟨g2, 0, none⟩) n cap2) := htZ.cell 2
          have HNZ : Hid (n = Z.length) := hnZ
          clear hZ hn hwv hown' hgrow ht2 hU2 hcc2 hff2 c22 f22 hcl2 hown c2 hcl hnZ
          obtain ⟨v, hv⟩ : ∃ v, v = Z.getD (k / 32) 0 := ⟨_, rfl⟩
          have HV : Hid (v = Z.getD (k / 32) 0) := hv
          have hroom : v < 2 ^ (k % 32) := by rw [hv]; exact limb_room Z k HZL.out (by rw [HZV.out]; exact nb_take_lt M k)
          have hor := or_bit v (k % 32) hroom (by omega)
          have hsum : v + 2 ^ (k % 32) < 4294967296 := by
            have h31 : 2 ^ (k % 32) ≤ 2 ^ 31 := Nat.pow_le_pow_right (by decide) (by omega)
            omega
          have hbd : k / 32 < n := by rw [HNZ.out, HZL.out]; omega
          obtain ⟨_, _, e2, hg2, _, hcz, hfz⟩ := hOZ.open (by intro e; have := HZL.out; rw [e] at this; simp at this)
          cases e2
          have cv := hcz (k / 32) (by rw [HZL.out]; omega)
          rw [← hv] at cv
          have fv := hfz (k / 32)
          have HOZ : Hid (OU _ _ _ _) := hOZ
          have HTZ : Hid _ := htZ
          have HUZ : Hid _ := hUZ
          clear hv hcz hfz hOZ htZ hUZ

          have hor1 : bits BinOp.or IntKind.u32 (v : Int) 1 = ((v + 2 ^ (k % 32) : Nat) : Int) := by
            rw [← hor, hr]; rfl
          clear hor
          go_region
          go_wp2
          rw [show (v : Int) + 1 = ((v + 2 ^ (k % 32) : Nat) : Int) by rw [hr]; simp]
          exact ⟨(MadeInv.bit HUZ.out HTZ.out HOZ.out (by omega) hg2 hk2 HZL.out dZ HZV.out HY.out (by rw [← HV.out]) hsum).drew, by simp [intOf]; omega⟩
      · cases y
        · go_wp2
          exact ⟨MadeInv.skip (Hid.out HU) (Hid.out HT) (Hid.out HO) hk2 (by rw [HXL.out]; omega) dX HXV.out HY.out, by simp [intOf]; omega⟩
        · obtain ⟨g2, cap2, e2, hb2, hlt2, hcc2, hff2⟩ := OU.open (Hid.out HO) (by intro e; have := HXL.out; rw [e] at this; simp at this; omega)
          cases e2
          obtain ⟨Z, hZ⟩ : ∃ Z, Z = X := ⟨_, rfl⟩
          subst hZ
          have hOZ := Hid.out HO
          have htZ := Hid.out HT
          have hUZ := Hid.out HU
          have HZL : Hid (Z.length = k / 32 + 1) := by show Z.length = _; rw [HXL.out]; omega
          have HZV : Hid (val Z = nb (M.take k)) := HXV.out
          have dZ : Dig Z := dX
          obtain ⟨n, hn⟩ : ∃ n, n = Z.length := ⟨_, rfl⟩
          have HNZ : Hid (n = Z.length) := hn
          clear hn hcc2 hff2 hown
          go_wp2_with fail
          obtain ⟨v, hv⟩ : ∃ v, v = Z.getD (k / 32) 0 := ⟨_, rfl⟩
          have HV : Hid (v = Z.getD (k / 32) 0) := hv
          have hroom : v < 2 ^ (k % 32) := by rw [hv]; exact limb_room Z k HZL.out (by rw [HZV.out]; exact nb_take_lt M k)
          have hor := or_bit v (k % 32) hroom (by omega)
          have hsum : v + 2 ^ (k % 32) < 4294967296 := by
            have h31 : 2 ^ (k % 32) ≤ 2 ^ 31 := Nat.pow_le_pow_right (by decide) (by omega)
            omega
          have hbd : k / 32 < n := by rw [HNZ.out, HZL.out]; omega
          obtain ⟨_, _, e2, hg2, _, hcz, hfz⟩ := hOZ.open (by intro e; have := HZL.out; rw [e] at this; simp at this)
          cases e2
          have cv := hcz (k / 32) (by rw [HZL.out]; omega)
          rw [← hv] at cv
          have fv := hfz (k / 32)
          have HOZ : Hid (OU _ _ _ _) := hOZ
          have HTZ : Hid _ := htZ
          have HUZ : Hid _ := hUZ
          clear hv hcz hfz hOZ htZ hUZ

          have hlz : k / 32 < Z.length := by rw [HZL.out]; omega
          have HS : Hid (bits BinOp.or IntKind.u32 (v : Int) (2 ^ (k % 32) % 4294967296) = ((v + 2 ^ (k % 32) : Nat) : Int)) := by
            show _ = _
            rw [← hor]
            congr 1
            have h32 : 2 ^ (k % 32) < 4294967296 := by omega
            rw [Int.natCast_pow]
            have e : ((2 : Nat) : Int) ^ (k % 32) = (((2 ^ (k % 32) : Nat)) : Int) := by simp
            rw [e]
            show (((2 : Nat) : Int) ^ (k % 32)) % 4294967296 = _
            rw [e]
            omega
          clear hor
          go_region
          go_wp2
          rw [HS.out]
          exact ⟨(MadeInv.bit HUZ.out HTZ.out HOZ.out (by omega) hg2 hk2 HZL.out dZ HZV.out HY.out (by rw [← HV.out]) hsum).drew, by simp [intOf]; omega⟩
    · have hk3 : k = M.length := by omega
      have hO' := hO
      obtain ⟨_, _, e, hAt⟩ := hO'.there
      cases e
      have t0r := t01.mono hU (by simp)
      go_wp2_with (first | (refine load_T _ rfl _ rfl _ _ rfl ht rfl ?_) | (refine store_V _ rfl _ _ rfl _ _ _ _ _ _ _ _ _ _ _ _ _ _ _ rfl rfl t0r rfl ?_; intro w3 hT3 hU3))
      refine ret_Tb Tryz.results126 rfl _ _ _ rfl hT3 rfl rfl ⟨(((u0.trans u1).then hU (by simp)).then hU3 (by simp)), M, X, false, _, _, rfl, HNM.out, rfl, ?_, dX, ?_, by rw [HXL.out, hk3]⟩
      · exact At.keep hAt t0r hU3
      · rw [HXV.out, hk3, List.take_of_length_le (Nat.le_refl _), HNM.out.eq]

set_option maxHeartbeats 4000000 in
set_option maxRecDepth 100000 in
theorem made_fittrue (a : Option Addr) (c : Nat) (L : List Bool) (w : World) (hL : L.length ≤ 5000) (hc : L.length ≤ c) (hc2 : c ≤ 9223372036854775807) (HL : BA w a L) (hfit : nb L < 2 ^ 1024) :
    Calls Tryz.prog 126 #[.slice a L.length c, .bool true] w fun e w' => Upd [] w w' ∧ ∃ M X ng a' c', e = .returned (.tuple #[.agg #[.int .u8 1, .bool ng, .slice a' X.length c', .string ⟨#[]⟩, .int .i64 0, .slice none 0 0, .slice none 0 0], .bool true]) ∧ NormB M (nb L) ∧ ng = (true && decide (0 < M.length)) ∧ At w' a' X ∧ Dig X ∧ val X = nb L ∧ X.length = (M.length + 31) / 32 := by
  obtain ⟨i0, hi, hz0, hz1, hz2⟩ := info_parts info_u32
  go_enter Tryz.func126, Tryz.ntmps126
  go_wp2_with fail
  have u0 := (Upd.refl [] w).alloc (.cells #[.int .u8 0, .bool false, .slice none 0 0, .string ⟨#[]⟩, .int .i64 0, .slice none 0 0, .slice none 0 0] 26)
  have t0 := Tb.new w #[.int .u8 0, .bool false, .slice none 0 0, .string ⟨#[]⟩, .int .i64 0, .slice none 0 0, .slice none 0 0] _ rfl
  refine (cut_any a c L _ (by omega) hc hc2 (HL.mono u0)).mono ?_
  rintro e w1 ⟨hw1, c1, M, rfl, nM, hM, hMl, hd1, hd2⟩
  have hlen : M.length ≤ 1024 := (nM.len_le 1024).2 hfit
  rw [hw1]
  have hd : decide ((M.length : Int) > 1024) = false := by simp; omega
  clear hw1 hfit
  obtain ⟨W0, hW0⟩ : ∃ x, x = w.alloc (.cells #[.int .u8 0, .bool false, .slice none 0 0, .string ⟨#[]⟩, .int .i64 0, .slice none 0 0, .slice none 0 0] 26) := ⟨_, rfl⟩
  have hsz0 : W0.heap.size = w.heap.size + 1 := by rw [hW0]; simp
  rw [← hW0] at u0 t0 hM ⊢
  have HNM : Hid _ := nM
  have HMM : Hid (BA W0 a M) := hM
  obtain ⟨ng, hn0⟩ : ∃ ng, decide (0 < M.length) = ng := ⟨_, rfl⟩
  have HNG : Hid (decide (0 < M.length) = ng) := hn0
  clear nM hW0 hM
  go_wp2_with fail
  try rw [hn0]
  clear hn0
  have u1 := (Upd.refl [] W0).alloc (.cells #[.int .u8 1, .bool ng, .slice none 0 0, .string ⟨#[]⟩, .int .i64 0, .slice none 0 0, .slice none 0 0] 26)
  have t1 := Tb.new W0 #[.int .u8 1, .bool ng, .slice none 0 0, .string ⟨#[]⟩, .int .i64 0, .slice none 0 0, .slice none 0 0] (w.heap.size + 1) hsz0.symm
  have t01 := t0.old (.cells #[.int .u8 1, .bool ng, .slice none 0 0, .string ⟨#[]⟩, .int .i64 0, .slice none 0 0, .slice none 0 0] 26)
  obtain ⟨W1, hW1⟩ : ∃ x, x = W0.alloc (.cells #[.int .u8 1, .bool ng, .slice none 0 0, .string ⟨#[]⟩, .int .i64 0, .slice none 0 0, .slice none 0 0] 26) := ⟨_, rfl⟩
  have hsz1 : W1.heap.size = w.heap.size + 2 := by rw [hW1]; simp [hsz0]
  rw [← hW1] at u1 t1 t01 ⊢
  clear hW1 t0
  go_loopw [7] (MadeInv W1 (w.heap.size + 1) ng M) (fun i _ => M.length - (intOf i).toNat)
  case atStart => exact ⟨0, [], none, 0, Nat.zero_le _, rfl, OU.nil _ _, t1, rfl, fun x hx => by simp at hx, by simp [val, nb], Upd.refl _ _⟩
  case round =>
    obtain ⟨k, X, a1, c1', hk, rfl, hO, ht, hXl, dX, hXv, hU⟩ := hrel
    have HXL : Hid (X.length = (k + 31) / 32) := hXl
    have HXV : Hid (val X = nb (M.take k)) := hXv
    clear hXl hXv
    by_cases hk2 : k < M.length
    · rcases HMM.out with h | ⟨b, o, rfl, hltb, hcM⟩
      · rw [h] at hk2; simp at hk2
      obtain ⟨y, hy⟩ : ∃ y, y = M.getD k false := ⟨_, rfl⟩
      have HY : Hid (y = M.getD k false) := hy
      have HC : Hid (∀ W, Upd [w.heap.size + 1] W1 W → W.cell? ⟨b, o + k, none⟩ = some (.bool y)) := fun W hu => by
        rw [hy]
        exact (hu.cell (p := ⟨b, o + k, none⟩) (show b < W1.heap.size by omega) (by simp; omega)).trans ((u1.cell (p := ⟨b, o + k, none⟩) hltb (by simp)).trans (hcM k hk2))
      have hne : (b = w.heap.size + 1) = False := eq_false (by omega)
      have hcl := HC.out wr hU
      have c2 : wr.cell? ⟨w.heap.size + 1, 2, none⟩ = some (.slice a1 X.length c1') := ht.cell 2
      have hXlen : X.length ≤ 33 := by rw [HXL.out]; omega
      have hown : wr.ownsRow W1.heap.size 47 1 _ X.length (X.map (fun n => Value.int .u32 (n : Nat))) := hO
      have hszr := hU.size
      have HO : Hid (OU wr W1.heap.size (.slice a1 X.length c1') X) := hO
      have HT : Hid _ := ht
      have HU : Hid _ := hU
      clear hy hcM hO ht hU
      by_cases hr : k % 32 = 0
      · have HQ : Hid (X.length = k / 32) := by show X.length = k / 32; rw [HXL.out]; omega
        cases y
        · go_wp2_with (at_builtin; refine wpList_append_own _ rfl _ _ 23 rfl W1.heap.size 47 i0 (.int .u32 0) 1 4 Tryz.underlying23 hi hz0 hz1 hz2 rfl (by decide) _ _ _ rfl (hown.alloc _) ⟨wr.heap.size, 0, none⟩ 1 1 [.int .u32 0] rfl rfl (cell_one_new _ _ _) (by intro u hu; simp at hu; subst hu; rfl) (by unfold maxLen; omega) (by omega) (by simp; omega) ?_; intro v' w2 hown' hgrow _; obtain ⟨g2, cap2, rfl, hb2, hlt2, hcc2, hff2⟩ := OU.open (OU.snoc hown') (by simp); have ht2 := Tb.grown (Hid.out HT) (Hid.out HO) hgrow (by omega); have hU2 := ((Hid.out HU).alloc (.cells #[.int .u32 0] 47)).grown hgrow (fun k hk => Or.inl (World.ownsRow.lt (Hid.out HO) k hk).1); have c22 : w2.cell? ⟨w.heap.size + 1, 2, none⟩ = some (.slice a1 X.length c1') := ht2.cell 2; have f22 : w2.frozen? ⟨w.heap.size + 1, 2, none⟩ = false := frozen_of_row w2 _ 2 _ _ ht2; have hcl2 := HC.out w2 hU2)
          exact ⟨MadeInv.put hU2 ht2 (OU.snoc hown') _ (by simp) (by omega) hk2 (by rw [List.length_append, HQ.out]; rfl) (dX.snoc0) (by rw [val_snoc0, HXV.out]) HY.out rfl, by simp [intOf]; omega⟩
        · go_wp2_with (at_builtin; refine wpList_append_own _ rfl _ _ 23 rfl W1.heap.size 47 i0 (.int .u32 0) 1 4 Tryz.underlying23 hi hz0 hz1 hz2 rfl (by decide) _ _ _ rfl (hown.alloc _) ⟨wr.heap.size, 0, none⟩ 1 1 [.int .u32 0] rfl rfl (cell_one_new _ _ _) (by intro u hu; simp at hu; subst hu; rfl) (by unfold maxLen; omega) (by omega) (by simp; omega) ?_; intro v' w2 hown' hgrow _; obtain ⟨g2, cap2, rfl, hb2, hlt2, hcc2, hff2⟩ := OU.open (OU.snoc hown') (by simp); have ht2 := Tb.grown (Hid.out HT) (Hid.out HO) hgrow (by omega); have hU2 := ((Hid.out HU).alloc (.cells #[.int .u32 0] 47)).grown hgrow (fun k hk => Or.inl (World.ownsRow.lt (Hid.out HO) k hk).1); have c22 : w2.cell? ⟨w.heap.size + 1, 2, none⟩ = some (.slice a1 X.length c1') := ht2.cell 2; have f22 : w2.frozen? ⟨w.heap.size + 1, 2, none⟩ = false := frozen_of_row w2 _ 2 _ _ ht2; have hcl2 := HC.out w2 hU2)
          obtain ⟨Z, hZ⟩ : ∃ Z, Z = X ++ [0] := ⟨_, rfl⟩
          have hOZ := (OU.snoc hown').other (p := ⟨w.heap.size + 1, 2, none⟩) (u := .slice (some ⟨g2, 0, none⟩) (X.length + 1) cap2) (show w.heap.size + 1 < W1.heap.size by omega)
          have htZ := ht2.put2 (u2 := .slice (some ⟨g2, 0, none⟩) (X.length + 1) cap2)
          have hUZ := hU2.setCell (p := ⟨w.heap.size + 1, 2, none⟩) (Or.inr (by simp)) (.slice (some ⟨g2, 0, none⟩) (X.length + 1) cap2)
          have HZL : Hid (Z.length = k / 32 + 1) := by show Z.length = _; rw [hZ, List.length_append, HQ.out]; rfl
          have HZV : Hid (val Z = nb (M.take k)) := by show val Z = _; rw [hZ, val_snoc0, HXV.out]
          have dZ : Dig Z := by rw [hZ]; exact dX.snoc0
          obtain ⟨n, hn⟩ : ∃ n, n = X.length + 1 := ⟨_, rfl⟩
          have hnZ : n = Z.length := by rw [hZ, hn]; simp
          rw [← hn] at hOZ htZ hUZ ⊢
          obtain ⟨wv, hwv⟩ : ∃ x, x = w2.setCell ⟨w.heap.size + 1, 2, none⟩ (.slice (some ⟨g2, 0, none⟩) n cap2) := ⟨_, rfl⟩
          rw [← hwv] at hOZ htZ hUZ ⊢
          rw [← hZ, ← hnZ] at hOZ
          have c2v : wv.cell? ⟨w.heap.size + 1, 2, none⟩ = some (.slice (some ⟨g2, 0, none⟩) n cap2) := htZ.cell 2
          have HNZ : Hid (n = Z.length) := hnZ
          clear hZ hn hwv hown' hgrow ht2 hU2 hcc2 hff2 c22 f22 hcl2 hown c2 hcl hnZ
          obtain ⟨v, hv⟩ : ∃ v, v = Z.getD (k / 32) 0 := ⟨_, rfl⟩
          have HV : Hid (v = Z.getD (k / 32) 0) := hv
          have hroom : v < 2 ^ (k % 32) := by rw [hv]; exact limb_room Z k HZL.out (by rw [HZV.out]; exact nb_take_lt M k)
          have hor := or_bit v (k % 32) hroom (by omega)
          have hsum : v + 2 ^ (k % 32) < 4294967296 := by
            have h31 : 2 ^ (k % 32) ≤ 2 ^ 31 := Nat.pow_le_pow_right (by decide) (by omega)
            omega
          have hbd : k / 32 < n := by rw [HNZ.out, HZL.out]; omega
          obtain ⟨_, _, e2, hg2, _, hcz, hfz⟩ := hOZ.open (by intro e; have := HZL.out; rw [e] at this; simp at this)
          cases e2
          have cv := hcz (k / 32) (by rw [HZL.out]; omega)
          rw [← hv] at cv
          have fv := hfz (k / 32)
          have HOZ : Hid (OU _ _ _ _) := hOZ
          have HTZ : Hid _ := htZ
          have HUZ : Hid _ := hUZ
          clear hv hcz hfz hOZ htZ hUZ

          have hor1 : bits BinOp.or IntKind.u32 (v : Int) 1 = ((v + 2 ^ (k % 32) : Nat) : Int) := by
            rw [← hor, hr]; rfl
          clear hor
          go_region
          go_wp2
          rw [show (v : Int) + 1 = ((v + 2 ^ (k % 32) : Nat) : Int) by rw [hr]; simp]
          exact ⟨(MadeInv.bit HUZ.out HTZ.out HOZ.out (by omega) hg2 hk2 HZL.out dZ HZV.out HY.out (by rw [← HV.out]) hsum).drew, by simp [intOf]; omega⟩
      · cases y
        · go_wp2
          exact ⟨MadeInv.skip (Hid.out HU) (Hid.out HT) (Hid.out HO) hk2 (by rw [HXL.out]; omega) dX HXV.out HY.out, by simp [intOf]; omega⟩
        · obtain ⟨g2, cap2, e2, hb2, hlt2, hcc2, hff2⟩ := OU.open (Hid.out HO) (by intro e; have := HXL.out; rw [e] at this; simp at this; omega)
          cases e2
          obtain ⟨Z, hZ⟩ : ∃ Z, Z = X := ⟨_, rfl⟩
          subst hZ
          have hOZ := Hid.out HO
          have htZ := Hid.out HT
          have hUZ := Hid.out HU
          have HZL : Hid (Z.length = k / 32 + 1) := by show Z.length = _; rw [HXL.out]; omega
          have HZV : Hid (val Z = nb (M.take k)) := HXV.out
          have dZ : Dig Z := dX
          obtain ⟨n, hn⟩ : ∃ n, n = Z.length := ⟨_, rfl⟩
          have HNZ : Hid (n = Z.length) := hn
          clear hn hcc2 hff2 hown
          go_wp2_with fail
          obtain ⟨v, hv⟩ : ∃ v, v = Z.getD (k / 32) 0 := ⟨_, rfl⟩
          have HV : Hid (v = Z.getD (k / 32) 0) := hv
          have hroom : v < 2 ^ (k % 32) := by rw [hv]; exact limb_room Z k HZL.out (by rw [HZV.out]; exact nb_take_lt M k)
          have hor := or_bit v (k % 32) hroom (by omega)
          have hsum : v + 2 ^ (k % 32) < 4294967296 := by
            have h31 : 2 ^ (k % 32) ≤ 2 ^ 31 := Nat.pow_le_pow_right (by decide) (by omega)
            omega
          have hbd : k / 32 < n := by rw [HNZ.out, HZL.out]; omega
          obtain ⟨_, _, e2, hg2, _, hcz, hfz⟩ := hOZ.open (by intro e; have := HZL.out; rw [e] at this; simp at this)
          cases e2
          have cv := hcz (k / 32) (by rw [HZL.out]; omega)
          rw [← hv] at cv
          have fv := hfz (k / 32)
          have HOZ : Hid (OU _ _ _ _) := hOZ
          have HTZ : Hid _ := htZ
          have HUZ : Hid _ := hUZ
          clear hv hcz hfz hOZ htZ hUZ

          have hlz : k / 32 < Z.length := by rw [HZL.out]; omega
          have HS : Hid (bits BinOp.or IntKind.u32 (v : Int) (2 ^ (k % 32) % 4294967296) = ((v + 2 ^ (k % 32) : Nat) : Int)) := by
            show _ = _
            rw [← hor]
            congr 1
            have h32 : 2 ^ (k % 32) < 4294967296 := by omega
            rw [Int.natCast_pow]
            have e : ((2 : Nat) : Int) ^ (k % 32) = (((2 ^ (k % 32) : Nat)) : Int) := by simp
            rw [e]
            show (((2 : Nat) : Int) ^ (k % 32)) % 4294967296 = _
            rw [e]
            omega
          clear hor
          go_region
          go_wp2
          rw [HS.out]
          exact ⟨(MadeInv.bit HUZ.out HTZ.out HOZ.out (by omega) hg2 hk2 HZL.out dZ HZV.out HY.out (by rw [← HV.out]) hsum).drew, by simp [intOf]; omega⟩
    · have hk3 : k = M.length := by omega
      have hO' := hO
      obtain ⟨_, _, e, hAt⟩ := hO'.there
      cases e
      have t0r := t01.mono hU (by simp)
      go_wp2_with (first | (refine load_T _ rfl _ rfl _ _ rfl ht rfl ?_) | (refine store_V _ rfl _ _ rfl _ _ _ _ _ _ _ _ _ _ _ _ _ _ _ rfl rfl t0r rfl ?_; intro w3 hT3 hU3))
      refine ret_Tb Tryz.results126 rfl _ _ _ rfl hT3 rfl rfl ⟨(((u0.trans u1).then hU (by simp)).then hU3 (by simp)), M, X, ng, _, _, rfl, HNM.out, by rw [HNG.out]; rfl, ?_, dX, ?_, by rw [HXL.out, hk3]⟩
      · exact At.keep hAt t0r hU3
      · rw [HXV.out, hk3, List.take_of_length_le (Nat.le_refl _), HNM.out.eq]

theorem norm_of_bits {X : List Nat} {M : List Bool} {n : Nat} (dX : Dig X) (hv : val X = n) (nM : NormB M n) (hl : X.length = (M.length + 31) / 32) : Norm X n := by
  refine ⟨dX, hv, fun x hx h0 => ?_⟩
  subst h0
  have hne : X ≠ [] := fun e => by rw [e] at hx; simp at hx
  have hX : X.length ≠ 0 := fun e => hne (List.eq_nil_of_length_eq_zero e)
  have hM : M ≠ [] := fun e => by rw [e, List.length_nil] at hl; omega
  have h1 : X = X.dropLast ++ [0] := by
    have h2 := List.getLast?_eq_some_getLast hne
    rw [hx] at h2
    have h3 := (List.dropLast_concat_getLast hne).symm
    rw [← Option.some.inj h2] at h3
    exact h3
  have h2 : val X = val X.dropLast := by
    have := val_snoc0 X.dropLast
    rw [← h1] at this
    exact this
  have h3 : val X.dropLast < 4294967296 ^ X.dropLast.length := val_lt (fun y hy => dX y (List.dropLast_subset X hy))
  rw [List.length_dropLast] at h3
  have h4 := nM.low hM
  have h5 : 4294967296 ^ (X.length - 1) ≤ 2 ^ (M.length - 1) := by
    rw [show (4294967296 : Nat) = 2 ^ 32 from rfl, ← Nat.pow_mul]
    exact Nat.pow_le_pow_right (by decide) (by omega)
  omega

theorem pow_eq : (4294967296 : Nat) ^ 32 = 2 ^ 1024 := by decide +kernel

/-- made: the integer of an amount, and a sign; none, if it has too many bits. -/
theorem made_any (a : Option Addr) (c n : Nat) (neg : Bool) (L : List Bool) (w : World) (hL : L.length ≤ 5000) (hc : L.length ≤ c) (hc2 : c ≤ 9223372036854775807) (HL : BA w a L) (hn : nb L = n) :
    Calls Tryz.prog 126 #[.slice a L.length c, .bool neg] w fun e w' => Res w' e (sg neg n) ∧ Upd [] w w' := by
  subst hn
  by_cases hfit : nb L < 2 ^ 1024
  · have hh : Calls Tryz.prog 126 #[.slice a L.length c, .bool neg] w fun e w' => Upd [] w w' ∧ ∃ M X ng a' c', e = .returned (.tuple #[.agg #[.int .u8 1, .bool ng, .slice a' X.length c', .string ⟨#[]⟩, .int .i64 0, .slice none 0 0, .slice none 0 0], .bool true]) ∧ NormB M (nb L) ∧ ng = (neg && decide (0 < M.length)) ∧ At w' a' X ∧ Dig X ∧ val X = nb L ∧ X.length = (M.length + 31) / 32 := by
      cases neg
      · exact made_fitfalse a c L w hL hc hc2 HL hfit
      · exact made_fittrue a c L w hL hc hc2 HL hfit
    refine hh.mono ?_
    rintro e w' ⟨hU, M, X, ng, a', c', rfl, nM, rfl, hA, dX, hv, hl⟩
    have hM := (nM.len_le 1024).2 hfit
    refine ⟨Or.inl ⟨by rw [sg_abs, pow_eq]; exact hfit, _, a', c', X, rfl, ⟨by rw [sg_abs]; exact norm_of_bits dX hv nM hl, hA, by omega, ?_⟩⟩, hU⟩
    rw [sg_neg]
    congr 1
    have h0 := nM.nil_iff
    by_cases hz : nb L = 0
    · rw [h0.2 hz, hz]; rfl
    · have h1 : M ≠ [] := fun e => hz (h0.1 e)
      have h2 : 0 < M.length := by cases M with | nil => exact absurd rfl h1 | cons x t => simp
      rw [decide_eq_true h2, decide_eq_true (by omega)]
  · refine (made_big a c neg L w hL hc hc2 HL hfit).mono ?_
    rintro e w' ⟨rfl, hU⟩
    exact ⟨Or.inr ⟨by rw [sg_abs, pow_eq]; exact hfit, rfl⟩, hU⟩

end Go.Proofs.YtabknipgbmdipaaGreatDoor
