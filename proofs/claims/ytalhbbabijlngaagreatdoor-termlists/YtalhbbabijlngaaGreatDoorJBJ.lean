/- Of of the reference, of a byte: its limbs lie in new memory. -/
import Derived.Test.YtalhbbabijlngaaGreatDoorJAR
import Derived.Test.YtalhbbabijlngaaGreatDoorJBI
import Derived.Test.YtalhbbabijlngaaGreatDoorJBB
import Derived.Test.YtalhbbabijlngaaGreatDoorR2J
import Derived.Great.BuildSlice
import Derived.Test.YtalhbbabijlngaaGreatDoorJBG
import Derived.Test.YtalhbbabijlngaaGreatDoorConV
import Derived.Test.YtalhbbabijlngaaGreatDoorJAY
namespace Go.Proofs.YtalhbbabijlngaaGreatDoor
open Go.RowKit
set_option maxHeartbeats 4000000 in
set_option maxRecDepth 100000 in
theorem made_fitN (a : Option Addr) (c : Nat) (L : List Bool) (w : World) (hL : L.length ≤ 5000) (hc : L.length ≤ c) (hc2 : c ≤ 9223372036854775807) (HL : BA w a L) (hfit : nb L < 2 ^ 1024) :
  Calls Tryz.prog 126 #[.slice a L.length c, .bool false] w fun e w' => Upd [] w w' ∧ ∃ M X ng a' c', e = .returned (.tuple #[.agg #[.int .u8 1, .bool ng, .slice a' X.length c', .string ⟨#[]⟩, .int .i64 0, .slice none 0 0, .slice none 0 0], .bool true]) ∧ NormB M (nb L) ∧ ng = (false && decide (0 < M.length)) ∧ At w' a' X ∧ Dig X ∧ val X = nb L ∧ X.length = (M.length + 31) / 32 ∧ (∀ ad, a' = some ad → w.heap.size ≤ ad.block) := by
 obtain ⟨i0, hi, hz0, hz1, hz2⟩ := info_parts info_u32
 go_enter Tryz.func126, Tryz.ntmps126
 go_wp2_with fail
 have u0 := (Upd.refl [] w).alloc (.cells #[.int .u8 0, .bool false, .slice none 0 0, .string ⟨#[]⟩, .int .i64 0, .slice none 0 0, .slice none 0 0] 26)
 have t0 := Tb.new w #[.int .u8 0, .bool false, .slice none 0 0, .string ⟨#[]⟩, .int .i64 0, .slice none 0 0, .slice none 0 0] _ rfl
 refine (cut_any a c L _ (by omega) hc hc2 (HL.mono u0)).mono ?_
 rintro e w1 ⟨hw1, c1, M, rfl, nM, hM, hMl, hd1, hd2⟩
 have hlen : M.length ≤ 1024 := (nM.len_le 1024).2 hfit
 rw [hw1]
 have hd : decide ((M.length : Int) > 1024) = false := by simp; omega
 clear hw1 hfit
 obtain ⟨W0, hW0⟩ : ∃ x, x = w.alloc (.cells #[.int .u8 0, .bool false, .slice none 0 0, .string ⟨#[]⟩, .int .i64 0, .slice none 0 0, .slice none 0 0] 26) := ⟨_, rfl⟩
 have hsz0 : W0.heap.size = w.heap.size + 1 := by rw [hW0]; simp
 rw [← hW0] at u0 t0 hM ⊢
 have HNM : Hid _ := nM
 have HMM : Hid (BA W0 a M) := hM
 skip
 clear nM hW0 hM
 go_wp2_with fail
 skip
 have u1 := (Upd.refl [] W0).alloc (.cells #[.int .u8 1, .bool false, .slice none 0 0, .string ⟨#[]⟩, .int .i64 0, .slice none 0 0, .slice none 0 0] 26)
 have t1 := Tb.new W0 #[.int .u8 1, .bool false, .slice none 0 0, .string ⟨#[]⟩, .int .i64 0, .slice none 0 0, .slice none 0 0] (w.heap.size + 1) hsz0.symm
 have t01 := t0.old (.cells #[.int .u8 1, .bool false, .slice none 0 0, .string ⟨#[]⟩, .int .i64 0, .slice none 0 0, .slice none 0 0] 26)
 obtain ⟨W1, hW1⟩ : ∃ x, x = W0.alloc (.cells #[.int .u8 1, .bool false, .slice none 0 0, .string ⟨#[]⟩, .int .i64 0, .slice none 0 0, .slice none 0 0] 26) := ⟨_, rfl⟩
 have hsz1 : W1.heap.size = w.heap.size + 2 := by rw [hW1]; simp [hsz0]
 rw [← hW1] at u1 t1 t01 ⊢
 clear hW1 t0
 go_loopw [7] (MadeInv W1 (w.heap.size + 1) false M) (fun i _ => M.length - (intOf i).toNat)
 case atStart => exact ⟨0, [], none, 0, Nat.zero_le _, rfl, OU.nil _ _, t1, rfl, fun x hx => by simp at hx, by simp [val, nb], Upd.refl _ _⟩
 case round =>
  obtain ⟨k, X, a1, c1', hk, rfl, hO, ht, hXl, dX, hXv, hU⟩ := hrel
  have HXL : Hid (X.length = (k + 31) / 32) := hXl
  have HXV : Hid (val X = nb (M.take k)) := hXv
  clear hXl hXv
  by_cases hk2 : k < M.length
  ·rcases HMM.out with h | ⟨b, o, rfl, hltb, hcM⟩
   ·rw [h] at hk2; simp at hk2
   obtain ⟨y, hy⟩ : ∃ y, y = M.getD k false := ⟨_, rfl⟩
   have HY : Hid (y = M.getD k false) := hy
   have HC : Hid (∀ W, Upd [w.heap.size + 1] W1 W → W.cell? ⟨b, o + k, none⟩ = some (.bool y)) := fun W hu => by
    rw [hy]
    exact (hu.cell (p := ⟨b, o + k, none⟩) (show b < W1.heap.size by omega) (by simp; omega)).trans ((u1.cell (p := ⟨b, o + k, none⟩) hltb (by simp)).trans (hcM k hk2))
   have hne : (b = w.heap.size + 1) = False := eq_false (by omega)
   have hcl := HC.out wr hU
   have c2 : wr.cell? ⟨w.heap.size + 1, 2, none⟩ = some (.slice a1 X.length c1') := ht.cell 2
   have hXlen : X.length ≤ 33 := by rw [HXL.out]; omega
   have hown : wr.ownsRow W1.heap.size 47 1 _ X.length (X.map (fun n => Value.int .u32 (n : Nat))) := hO
   have hszr := hU.size
   have HO : Hid (OU wr W1.heap.size (.slice a1 X.length c1') X) := hO
   have HT : Hid _ := ht
   have HU : Hid _ := hU
   clear hy hcM hO ht hU
   by_cases hr : k % 32 = 0
   ·have HQ : Hid (X.length = k / 32) := by show X.length = k / 32; rw [HXL.out]; omega
    cases y
    ·go_wp2_with (at_builtin; refine wpList_append_own _ rfl _ _ 23 rfl W1.heap.size 47 i0 (.int .u32 0) 1 4 Tryz.underlying23 hi hz0 hz1 hz2 rfl (by decide) _ _ _ rfl (hown.alloc _) ⟨wr.heap.size, 0, none⟩ 1 1 [.int .u32 0] rfl rfl (cell_one_new _ _ _) (by intro u hu; simp at hu; subst hu; rfl) (by unfold maxLen; omega) (by omega) (by simp; omega) ?_; intro v' w2 hown' hgrow _; obtain ⟨g2, cap2, rfl, hb2, hlt2, hcc2, hff2⟩ := OU.open (OU.snoc hown') (by simp); have ht2 := Tb.grown (Hid.out HT) (Hid.out HO) hgrow (by omega); have hU2 := ((Hid.out HU).alloc (.cells #[.int .u32 0] 47)).grown hgrow (fun k hk => Or.inl (World.ownsRow.lt (Hid.out HO) k hk).1); have c22 : w2.cell? ⟨w.heap.size + 1, 2, none⟩ = some (.slice a1 X.length c1') := ht2.cell 2; have f22 : w2.frozen? ⟨w.heap.size + 1, 2, none⟩ = false := frozen_of_row w2 _ 2 _ _ ht2; have hcl2 := HC.out w2 hU2)
     exact ⟨MadeInv.put hU2 ht2 (OU.snoc hown') _ (by simp) (by omega) hk2 (by rw [List.length_append, HQ.out]; rfl) (dX.snoc0) (by rw [val_snoc0, HXV.out]) HY.out rfl, by simp [intOf]; omega⟩
    ·go_wp2_with (at_builtin; refine wpList_append_own _ rfl _ _ 23 rfl W1.heap.size 47 i0 (.int .u32 0) 1 4 Tryz.underlying23 hi hz0 hz1 hz2 rfl (by decide) _ _ _ rfl (hown.alloc _) ⟨wr.heap.size, 0, none⟩ 1 1 [.int .u32 0] rfl rfl (cell_one_new _ _ _) (by intro u hu; simp at hu; subst hu; rfl) (by unfold maxLen; omega) (by omega) (by simp; omega) ?_; intro v' w2 hown' hgrow _; obtain ⟨g2, cap2, rfl, hb2, hlt2, hcc2, hff2⟩ := OU.open (OU.snoc hown') (by simp); have ht2 := Tb.grown (Hid.out HT) (Hid.out HO) hgrow (by omega); have hU2 := ((Hid.out HU).alloc (.cells #[.int .u32 0] 47)).grown hgrow (fun k hk => Or.inl (World.ownsRow.lt (Hid.out HO) k hk).1); have c22 : w2.cell? ⟨w.heap.size + 1, 2, none⟩ = some (.slice a1 X.length c1') := ht2.cell 2; have f22 : w2.frozen? ⟨w.heap.size + 1, 2, none⟩ = false := frozen_of_row w2 _ 2 _ _ ht2; have hcl2 := HC.out w2 hU2)
     obtain ⟨Z, hZ⟩ : ∃ Z, Z = X ++ [0] := ⟨_, rfl⟩
     have hOZ := (OU.snoc hown').other (p := ⟨w.heap.size + 1, 2, none⟩) (u := .slice (some ⟨g2, 0, none⟩) (X.length + 1) cap2) (show w.heap.size + 1 < W1.heap.size by omega)
     have htZ := ht2.put2 (u2 := .slice (some ⟨g2, 0, none⟩) (X.length + 1) cap2)
     have hUZ := hU2.setCell (p := ⟨w.heap.size + 1, 2, none⟩) (Or.inr (by simp)) (.slice (some ⟨g2, 0, none⟩) (X.length + 1) cap2)
     have HZL : Hid (Z.length = k / 32 + 1) := by show Z.length = _; rw [hZ, List.length_append, HQ.out]; rfl
     have HZV : Hid (val Z = nb (M.take k)) := by show val Z = _; rw [hZ, val_snoc0, HXV.out]
     have dZ : Dig Z := by rw [hZ]; exact dX.snoc0
     obtain ⟨n, hn⟩ : ∃ n, n = X.length + 1 := ⟨_, rfl⟩
     have hnZ : n = Z.length := by rw [hZ, hn]; simp
     rw [← hn] at hOZ htZ hUZ ⊢
     obtain ⟨wv, hwv⟩ : ∃ x, x = w2.setCell ⟨w.heap.size + 1, 2, none⟩ (.slice (some ⟨g2, 0, none⟩) n cap2) := ⟨_, rfl⟩
     rw [← hwv] at hOZ htZ hUZ ⊢
     rw [← hZ, ← hnZ] at hOZ
     have c2v : wv.cell? ⟨w.heap.size + 1, 2, none⟩ = some (.slice (some ⟨g2, 0, none⟩) n cap2) := htZ.cell 2
     have HNZ : Hid (n = Z.length) := hnZ
     clear hZ hn hwv hown' hgrow ht2 hU2 hcc2 hff2 c22 f22 hcl2 hown c2 hcl hnZ
     obtain ⟨v, hv⟩ : ∃ v, v = Z.getD (k / 32) 0 := ⟨_, rfl⟩
     have HV : Hid (v = Z.getD (k / 32) 0) := hv
     have hroom : v < 2 ^ (k % 32) := by rw [hv]; exact limb_room Z k HZL.out (by rw [HZV.out]; exact nb_take_lt M k)
     have hor := or_bit v (k % 32) hroom (by omega)
     have hsum : v + 2 ^ (k % 32) < 4294967296 := by
      have h31 : 2 ^ (k % 32) ≤ 2 ^ 31 := Nat.pow_le_pow_right (by decide) (by omega)
      omega
     have hbd : k / 32 < n := by rw [HNZ.out, HZL.out]; omega
     obtain ⟨_, _, e2, hg2, _, hcz, hfz⟩ := hOZ.open (by intro e; have := HZL.out; rw [e] at this; simp at this)
     cases e2
     have cv := hcz (k / 32) (by rw [HZL.out]; omega)
     rw [← hv] at cv
     have fv := hfz (k / 32)
     have HOZ : Hid (OU _ _ _ _) := hOZ
     have HTZ : Hid _ := htZ
     have HUZ : Hid _ := hUZ
     clear hv hcz hfz hOZ htZ hUZ
     have hor1 : bits BinOp.or IntKind.u32 (v : Int) 1 = ((v + 2 ^ (k % 32) : Nat) : Int) := by
      rw [← hor, hr]; rfl
     clear hor
     go_region
     go_wp2
     rw [show (v : Int) + 1 = ((v + 2 ^ (k % 32) : Nat) : Int) by rw [hr]; simp]
     exact ⟨(MadeInv.bit HUZ.out HTZ.out HOZ.out (by omega) hg2 hk2 HZL.out dZ HZV.out HY.out (by rw [← HV.out]) hsum).drew, by simp [intOf]; omega⟩
   ·cases y
    ·go_wp2
     exact ⟨MadeInv.skip (Hid.out HU) (Hid.out HT) (Hid.out HO) hk2 (by rw [HXL.out]; omega) dX HXV.out HY.out, by simp [intOf]; omega⟩
    ·obtain ⟨g2, cap2, e2, hb2, hlt2, hcc2, hff2⟩ := OU.open (Hid.out HO) (by intro e; have := HXL.out; rw [e] at this; simp at this; omega)
     cases e2
     obtain ⟨Z, hZ⟩ : ∃ Z, Z = X := ⟨_, rfl⟩
     subst hZ
     have hOZ := Hid.out HO
     have htZ := Hid.out HT
     have hUZ := Hid.out HU
     have HZL : Hid (Z.length = k / 32 + 1) := by show Z.length = _; rw [HXL.out]; omega
     have HZV : Hid (val Z = nb (M.take k)) := HXV.out
     have dZ : Dig Z := dX
     obtain ⟨n, hn⟩ : ∃ n, n = Z.length := ⟨_, rfl⟩
     have HNZ : Hid (n = Z.length) := hn
     clear hn hcc2 hff2 hown
     go_wp2_with fail
     obtain ⟨v, hv⟩ : ∃ v, v = Z.getD (k / 32) 0 := ⟨_, rfl⟩
     have HV : Hid (v = Z.getD (k / 32) 0) := hv
     have hroom : v < 2 ^ (k % 32) := by rw [hv]; exact limb_room Z k HZL.out (by rw [HZV.out]; exact nb_take_lt M k)
     have hor := or_bit v (k % 32) hroom (by omega)
     have hsum : v + 2 ^ (k % 32) < 4294967296 := by
      have h31 : 2 ^ (k % 32) ≤ 2 ^ 31 := Nat.pow_le_pow_right (by decide) (by omega)
      omega
     have hbd : k / 32 < n := by rw [HNZ.out, HZL.out]; omega
     obtain ⟨_, _, e2, hg2, _, hcz, hfz⟩ := hOZ.open (by intro e; have := HZL.out; rw [e] at this; simp at this)
     cases e2
     have cv := hcz (k / 32) (by rw [HZL.out]; omega)
     rw [← hv] at cv
     have fv := hfz (k / 32)
     have HOZ : Hid (OU _ _ _ _) := hOZ
     have HTZ : Hid _ := htZ
     have HUZ : Hid _ := hUZ
     clear hv hcz hfz hOZ htZ hUZ
     have hlz : k / 32 < Z.length := by rw [HZL.out]; omega
     have HS : Hid (bits BinOp.or IntKind.u32 (v : Int) (2 ^ (k % 32) % 4294967296) = ((v + 2 ^ (k % 32) : Nat) : Int)) := by
      show _ = _
      rw [← hor]
      congr 1
      have h32 : 2 ^ (k % 32) < 4294967296 := by omega
      rw [Int.natCast_pow]
      have e : ((2 : Nat) : Int) ^ (k % 32) = (((2 ^ (k % 32) : Nat)) : Int) := by simp
      rw [e]
      show (((2 : Nat) : Int) ^ (k % 32)) % 4294967296 = _
      rw [e]
      omega
     clear hor
     go_region
     go_wp2
     rw [HS.out]
     exact ⟨(MadeInv.bit HUZ.out HTZ.out HOZ.out (by omega) hg2 hk2 HZL.out dZ HZV.out HY.out (by rw [← HV.out]) hsum).drew, by simp [intOf]; omega⟩
  ·have hk3 : k = M.length := by omega
   have hO' := hO
   have hnew := fun (ad : Addr) (e : a1 = some ad) => (World.ownsRow.lt hO ad.block (by rw [e]; rfl)).1
   obtain ⟨_, _, e, hAt⟩ := hO'.there
   cases e
   have t0r := t01.mono hU (by simp)
   go_wp2_with (first | (refine load_T _ rfl _ rfl _ _ rfl ht rfl ?_) | (refine store_V _ rfl _ _ rfl _ _ _ _ _ _ _ _ _ _ _ _ _ _ _ rfl rfl t0r rfl ?_; intro w3 hT3 hU3))
   refine ret_Tb Tryz.results126 rfl _ _ _ rfl hT3 rfl rfl ⟨(((u0.trans u1).then hU (by simp)).then hU3 (by simp)), M, X, false, _, _, rfl, HNM.out, rfl, ?_, dX, ?_, by rw [HXL.out, hk3], fun ad e => by have := hnew ad e; omega⟩
   ·exact At.keep hAt t0r hU3
   ·rw [HXV.out, hk3, List.take_of_length_le (Nat.le_refl _), HNM.out.eq]
theorem made_smallN (a : Option Addr) (c S : Nat) (L : List Bool) (w : World) (hL : L.length ≤ 5000) (hc : L.length ≤ c) (hc2 : c ≤ 9223372036854775807) (HL : BA w a L) (hn : nb L = S) (hs : S < 2 ^ 1024) :
  Calls Tryz.prog 126 #[.slice a L.length c, .bool false] w fun e w' => (∃ ng a2 c2 M2, e = .returned (.tuple #[.agg #[.int .u8 1, .bool ng, .slice a2 M2.length c2, .string ⟨#[]⟩, .int .i64 0, .slice none 0 0, .slice none 0 0], .bool true]) ∧ TI w' ng a2 M2 (S : Int) ∧ ∀ ad, a2 = some ad → w.heap.size ≤ ad.block) ∧ Upd [] w w' := by
 subst hn
 refine (made_fitN a c L w hL hc hc2 HL hs).mono ?_
 rintro e w' ⟨hU, M, X, ng, a', c', rfl, nM, rfl, hA, dX, hv, hl, hnew⟩
 have hM := (nM.len_le 1024).2 hs
 refine ⟨⟨_, a', c', X, rfl, ⟨by rw [Int.natAbs_natCast]; exact norm_of_bits dX hv nM hl, hA, by omega, ?_⟩, hnew⟩, hU⟩
 simp
set_option maxHeartbeats 2000000 in
set_option maxRecDepth 100000 in
theorem rOf_new (S : Nat) (w : World) (hb : S ≤ 9223372036854775807) :
  Calls Tryz.prog 68 #[.int .i64 ((S : Int))] w fun e w' => Upd [] w w' ∧ ∃ neg a c M, e = .returned (.agg #[.int .u8 1, .bool neg, .slice a M.length c, .string ⟨#[]⟩, .int .i64 0, .slice none 0 0, .slice none 0 0]) ∧ TI w' neg a M ((S : Int)) ∧ ∀ ad, a = some ad → w.heap.size ≤ ad.block := by
 obtain ⟨i0, hi, hz0, hz1, hz2⟩ := info_parts info_bool
 have hlt : decide ((S : Int) < 0) = false := by simp
 go_enter Tryz.func68, Tryz.ntmps68
 go_wp2_with fail
 have u0 := (Upd.refl [] w).alloc (.cells #[.int .u8 0, .bool false, .slice none 0 0, .string ⟨#[]⟩, .int .i64 0, .slice none 0 0, .slice none 0 0] 26)
 have t0 := Tb.new w #[.int .u8 0, .bool false, .slice none 0 0, .string ⟨#[]⟩, .int .i64 0, .slice none 0 0, .slice none 0 0] _ rfl
 obtain ⟨W0, hW0⟩ : ∃ x, x = w.alloc (.cells #[.int .u8 0, .bool false, .slice none 0 0, .string ⟨#[]⟩, .int .i64 0, .slice none 0 0, .slice none 0 0] 26) := ⟨_, rfl⟩
 have hsz0 : W0.heap.size = w.heap.size + 1 := by rw [hW0]; simp
 rw [← hW0] at u0 t0 ⊢
 clear hW0
 go_loopw [3, 4] (OfInv W0 S) (fun mv _ _ => (intOf mv).toNat)
 case atStart => exact ⟨S, 0, [], rfl, OL.nil _ _, rfl, by simp [nb], by omega, by omega, Upd.refl _ _⟩
 case round =>
  obtain ⟨m, k, L, rfl, hO, hLl, hLv, hm, hk, hU⟩ := hrel
  have HLL : Hid (L.length = k) := hLl
  have HLV : Hid (nb L + 2 ^ k * m = S) := hLv
  have hszr := hU.size
  by_cases hm0 : m = 0
  ·subst hm0
   obtain ⟨a1, c1, rfl, hBA, hF, hc1, hc2⟩ := hO.there
   have hn : nb L = S := by simpa using hLv
   have HN : Hid (nb L = S) := hn
   clear hLl hLv hn hO
   have t0r := t0.mono hU (by simp)
   go_wp2_with fail
   have hfit : S < 2 ^ 1024 := Nat.lt_of_lt_of_le (show S < 18446744073709551616 by omega) (by decide +kernel)
   refine (made_smallN a1 c1 S L wr (by rw [HLL.out]; omega) hc1 hc2 hBA HN.out hfit).mono ?_
   rintro e w2 ⟨⟨ng, a2, c2, M2, rfl, T2, hN2⟩, hU2⟩
   have HN2 : Hid (∀ ad, a2 = some ad → wr.heap.size ≤ ad.block) := hN2
   have I2 : Hid (TI w2 ng a2 M2 ((S : Int))) := T2
   have t02 := t0r.mono hU2 (by simp)
   have U2 : Hid (Upd [] w w2) := (u0.trans hU).trans hU2
   clear hfit T2 t0r hN2
   have u3 := (Upd.refl [] w2).alloc (.cells #[.int .u8 1, .bool ng, .slice a2 M2.length c2, .string ⟨#[]⟩, .int .i64 0, .slice none 0 0, .slice none 0 0] 26)
   have tt3 := Tb.new w2 #[.int .u8 1, .bool ng, .slice a2 M2.length c2, .string ⟨#[]⟩, .int .i64 0, .slice none 0 0, .slice none 0 0] _ rfl
   have t03 := t02.old (.cells #[.int .u8 1, .bool ng, .slice a2 M2.length c2, .string ⟨#[]⟩, .int .i64 0, .slice none 0 0, .slice none 0 0] 26)
   go_wp2_with (first | (refine load_T _ rfl _ rfl _ _ rfl tt3 rfl ?_) | (refine store_V _ rfl _ _ rfl _ _ _ _ _ _ _ _ _ _ _ _ _ _ _ rfl rfl t03 rfl ?_; intro w4 hT4 hU4))
   have I3 := I2.out.mono u3
   exact ret_T Tryz.results68 rfl _ _ rfl hT4 rfl ⟨(U2.out.trans u3).then hU4 (by simp), ng, a2, c2, M2, rfl, ⟨I3.norm, I3.mem.keep t03 hU4, I3.len, I3.sgn⟩, fun ad e => by have := HN2.out ad e; omega⟩
  ·have hlen : L.length < 64 := of_len L m S (by omega) (by rw [HLL.out]; exact hLv) (by omega)
   have hown : wr.ownsRow W0.heap.size 4 1 _ L.length (L.map Value.bool) := hO
   have HO : Hid (OL wr W0.heap.size _ L) := hO
   have hgt : decide ((m : Int) > 0) = true := by simp; omega
   clear hLl hLv hO
   go_wp2_with (at_builtin; refine wpList_append_own _ rfl _ _ 131 rfl W0.heap.size 4 i0 (.bool false) 1 1 Tryz.underlying131 hi hz0 hz1 hz2 rfl (by decide) _ _ _ rfl (hown.alloc _) ⟨wr.heap.size, 0, none⟩ 1 1 [.bool (bits BinOp.and IntKind.u64 (m : Int) 1 == 1)] rfl rfl (cell_one_new _ _ _) (by intro u hu; simp at hu; subst hu; rfl) (by unfold maxLen; omega) (by omega) (by simp; omega) ?_; intro v' w2 hown' hgrow _)
   go_roundw
   case rel =>
    exact ⟨m / 2, k + 1, L ++ [_], by go_num, OL.snoc hown', by rw [List.length_append, HLL.out]; rfl, of_step L k m S _ (bit_low m hm) HLL.out HLV.out, by omega, by rw [← HLL.out]; omega, (hU.alloc _).grown hgrow (fun k hk => Or.inl (World.ownsRow.lt HO.out k hk).1)⟩
   case measure => simp [intOf]; omega
theorem rOf_byte (S : Nat) (w : World) (hS : S < 256) :
  Calls Tryz.prog 68 #[.int .i64 (S : Nat)] w fun e w' => Upd [] w w' ∧ ∃ cs : List Value, cs.length = 7 ∧ e = .returned (.agg cs.toArray) ∧ InB (fun b => w.heap.size ≤ b) w' 1 cs (bytT S) := by
 refine (rOf_new S w (by omega)).mono ?_
 rintro e w' ⟨hU, neg, a, c, M, rfl, hT, hN⟩
 have hM : M = bytL S := by
  refine hT.norm.uniq ?_
  rw [Int.natAbs_natCast]
  unfold bytL
  by_cases h : S = 0
  ·rw [if_pos h, h]; exact Norm.zero
  ·rw [if_neg h]
   exact ⟨fun x hx => by simp at hx; omega, by simp [val], fun x hx => by simp at hx; omega⟩
 have hg : neg = false := by rw [hT.sgn]; simp
 subst hM hg
 refine ⟨hU, _, rfl, rfl, a, none, none, c, 0, 0, rfl, ?_, hT.norm.dig, Or.inl rfl, Or.inl rfl⟩
 rcases hT.mem with h | ⟨b, o, e, h1, h2⟩
 ·exact Or.inl h
 ·exact Or.inr ⟨b, o, e, hN _ e, h1, h2⟩
end Go.Proofs.YtalhbbabijlngaaGreatDoor
namespace Go.Proofs.YtalhbbabijlngaaGreatDoor
open Go.RowKit
theorem byN_eq (s : ByteArray) (n : Nat) (h : n < s.size) : byN s n = s[n].toNat := by
 unfold byN
 have h2 : n < s.data.size := h
 rw [Array.getD_eq_getD_getElem?, Array.getElem?_eq_getElem h2]
 rfl
theorem byN_lt (s : ByteArray) (n : Nat) : byN s n < 256 := UInt8.toNat_lt _
theorem bytV_form (x g : Nat) : ∃ a c, bytV x g = .slice a (bytL x).length c := by
 unfold bytV bytL
 by_cases h : x = 0
 ·rw [if_pos h, if_pos h]; exact ⟨_, _, rfl⟩
 ·rw [if_neg h, if_neg h]; exact ⟨_, _, rfl⟩
theorem ofT_tsz (l : List Nat) : tszs (l.map bytT) ≤ l.length := by
 induction l with
 | nil => simp [tszs]
 | cons x r ih =>
  have : (bytL x).length ≤ 1 := by unfold bytL; split <;> simp
  simp only [List.map_cons, tszs, bytT, tsz, List.length_map, List.length_cons]
  omega
theorem ofT_map (s : ByteArray) : ((List.range s.size).map fun j => bytT (byN s j)) = ((List.range s.size).map (byN s)).map bytT := by rw [List.map_map]; rfl
theorem ofT_small (s : ByteArray) (h : s.size ≤ 10000) : tsz (ofT s) ≤ 1353245080330 := by
 have := ofT_tsz ((List.range s.size).map (byN s))
 rw [← ofT_map] at this
 simp only [List.length_map, List.length_range] at this
 simp only [ofT, tsz, tszs, List.length_nil]
 omega
theorem OfI.inb {s : ByteArray} {w wr : World} {G : Nat → Nat} {a : Option Addr} {c : Nat} (h : OfI s w s.size G (.slice a s.size c) wr) (d : Nat) : RowB (Pl 0 w.heap.size) (InB (Pl 0 w.heap.size) wr (d + 1)) wr a ((List.range s.size).map fun j => bytT (byN s j)) := by
 rcases h.row with ⟨e, h0⟩ | ⟨g, cap, e, hlt, _, _, _⟩
 ·exact Or.inl (by rw [h0]; rfl)
 ·simp only [Value.slice.injEq] at e
  obtain ⟨rfl, _, rfl⟩ := e
  refine Or.inr ⟨g, 0, rfl, Or.inr (h.new g rfl), hlt, fun i hi => ?_⟩
  have hi2 : i < s.size := by simpa using hi
  refine ⟨bytC (byN s i) (G i), rfl, fun j hj => by rw [Nat.zero_add]; exact h.has g _ _ rfl i j hi2 hj, ?_⟩
  rw [List.getElem_map, List.getElem_range]
  obtain ⟨a', c', hV⟩ := bytV_form (byN s i) (G i)
  unfold bytC bytT
  rw [hV]
  refine ⟨a', none, none, c', 0, 0, rfl, ?_, fun x hx => ?_, Or.inl rfl, Or.inl rfl⟩
  ·unfold bytV bytL at hV
   unfold bytL
   by_cases hx : byN s i = 0
   ·rw [if_pos hx]; exact Or.inl rfl
   ·rw [if_neg hx, if_neg hx] at hV
    rw [if_neg hx]
    simp only [Value.slice.injEq] at hV
    obtain ⟨rfl, _⟩ := hV
    refine Or.inr ⟨G i, 0, rfl, Or.inr (h.lo i hi2), h.hi i hi2, fun j hj => ?_⟩
    have hj0 : j = 0 := by simpa using hj
    subst hj0
    have hb := h.blk i hi2 hx
    unfold Blk at hb
    rw [cell_of_row _ _ _ _ _ _ hb]
    rfl
  ·unfold bytL at hx
   split at hx
   ·cases hx
   ·simp at hx
    have := byN_lt s i
    omega
theorem cons_fin (B lo d g n3 c3 n4 c4 : Nat) (a3 a4 : Option Addr) (t : Tm) (b : Bool) (w w5 S' : World) (hg0 : w.heap.size ≤ g) (hg : g < lo) (hB : B ≤ w.heap.size) (mid hi : Nat) (J K : List Tm) (ht7 : t = .mk 7 0 false [] ⟨#[]⟩ J K) (hlm : lo ≤ mid) (hs3 : SepR lo mid w5 d (.slice a3 n3 c3) J) (hs4 : SepR mid hi w5 d (.slice a4 n4 c4) K) (hu : Upd [] w w5) (h3 : n3 ≤ c3) (h3' : c3 ≤ 9223372036854775807) (hin : InB (Pl B lo) w5 (d + 1) [.int .u8 7, .bool false, .slice none 0 0, .string ⟨#[]⟩, .int .i64 0, .slice a3 n3 c3, .slice a4 n4 c4] t) (h3u : Upd [g] w5 S') :
  ConsQ w (d + 1) (pickT b t) (.returned (.agg #[.int .u8 (fk b), .bool false, .slice none 0 0, .string ⟨#[]⟩, .int .i64 0, .slice (fa b a3) (fn b n3) (fn b c3), .slice (fa b a4) (fn b n4) (fn b c4)])) S' := by
 have hU5 : Upd [] w S' := hu.then h3u (fun x hx => by simp at hx; subst hx; exact Or.inl hg0)
 refine ⟨_, rfl, rfl, ?_, ⟨_, _, _, rfl, ?_, ?_⟩, hU5, ?_⟩
 ·cases b with
  | false => exact zero_in _ _
  | true =>
   rw [pickT, if_pos rfl]
   refine InB.plain _ _ _ (InB.upd (Q := fun _ => True) h3u (fun b hb hm => ?_) (fun _ _ _ => trivial) _ _ _ hin)
   simp at hm
   subst hm
   rcases hb with hb | hb
   ·omega
   ·omega
 ·cases b <;> simp [fn]; exact h3
 ·cases b <;> simp [fn]; exact h3'
 ·have hl : w.heap.size ≤ lo := by omega
  cases b with
  | false => exact zero_sep _ _ _
  | true =>
   rw [pickT, if_pos rfl, ht7]
   obtain ⟨LB, RB, k1, k2, k3⟩ := (list_sep hs3 hs4 hlm).upd h3u (fun x hx => by simp at hx; omega)
   exact ⟨LB, RB, k1, k2, fun x hx => Nat.le_trans hl (k3 x hx)⟩
def TOfInv (s : ByteArray) (w W : World) (ov _i k : Value) (wr : World) : Prop := ∃ (n : Nat) (G : Nat → Nat), n ≤ s.size ∧ k = .int .i64 n ∧ OfI s W n G ov wr ∧ Upd [] w wr
set_option maxHeartbeats 4000000 in
set_option maxRecDepth 100000 in
theorem TOf_sep (s : ByteArray) (w : World) (d : Nat) (hs : s.size ≤ 10000) :
  Calls Tryz.prog 26 #[.string s] w (ConsQ w (d + 2) (pickT (decide (s.size ≤ 2048) && okS (ofT s)) (ofT s))) := by
 obtain ⟨i0, hi, hz0, hz1, hz2⟩ := info_parts info_term3
 have tz := Tb.new w #[.int .u8 0, .bool false, .slice none 0 0, .string ⟨#[]⟩, .int .i64 0, .slice none 0 0, .slice none 0 0] _ rfl
 have hU0 : Upd [] w (w.alloc (.cells #[.int .u8 0, .bool false, .slice none 0 0, .string ⟨#[]⟩, .int .i64 0, .slice none 0 0, .slice none 0 0] 26)) := (Upd.refl [] w).alloc _
 by_cases hlong : 2048 < s.size
 ·have hd : decide (s.size ≤ 2048) = false := by simp; omega
  rw [hd, Bool.false_and, pickT, if_neg (by simp)]
  go_enter Tryz.func26, Tryz.ntmps26
  go_wp2_with (refine store_V _ rfl _ _ rfl _ _ _ _ _ _ _ _ _ _ _ _ _ _ _ rfl rfl tz rfl ?_; intro w2 hT2 hU2)
  exact ret_T Tryz.results26 rfl _ _ rfl hT2 rfl ⟨zeroC, rfl, rfl, zero_in _ _, ⟨none, 0, 0, rfl, Nat.le_refl _, by omega⟩, hU0.then hU2 (by simp), zero_sep _ _ _⟩
 ·have hd : decide (s.size ≤ 2048) = true := by simp; omega
  rw [hd, Bool.true_and]
  obtain ⟨W, hW⟩ : ∃ W, W = w.alloc (.cells #[.int .u8 0, .bool false, .slice none 0 0, .string ⟨#[]⟩, .int .i64 0, .slice none 0 0, .slice none 0 0] 26) := ⟨_, rfl⟩
  go_enter Tryz.func26, Tryz.ntmps26
  go_wp2_with fail
  rw [← hW] at hU0 tz ⊢
  go_loopw [3, 4, 11] (TOfInv s w W) (fun _ _ k _ => s.size - (intOf k).toNat)
  case atStart => exact ⟨0, fun _ => 0, Nat.zero_le _, rfl, ⟨Or.inl ⟨rfl, rfl⟩, Hs.zero _ _ _ _, fun g hg => (by cases hg), fun j hj => by omega, fun j hj => by omega, fun j hj => by omega, fun j hj => by omega, fun i j _ hj => by omega, Upd.refl [] W⟩, hU0⟩
  case round =>
   obtain ⟨n, G, hn, rfl, hI, hU⟩ := hrel
   by_cases hn2 : n < s.size
   ·have HI : Hid _ := hI
    have HU : Hid (Upd [] w wr) := hU
    have hbl := byN_lt s n
    have hbe := byN_eq s n hn2
    clear hI hU
    go_wp2_with fail
    rw [← hbe]
    refine (Of_byte (byN s n) wr hbl).mono ?_
    rintro e w1 ⟨hU1, hs1, hcase⟩
    obtain ⟨a', c', hV⟩ := bytV_form (byN s n) (wr.heap.size + 1)
    obtain ⟨l', hl'⟩ : ∃ l', l' = (bytL (byN s n)).length := ⟨_, rfl⟩
    rw [← hl'] at hV
    have hC : bytC (byN s n) (wr.heap.size + 1) = [.int .u8 1, .bool false, .slice a' l' c', .string ⟨#[]⟩, .int .i64 0, .slice none 0 0, .slice none 0 0] := by unfold bytC; rw [hV]
    obtain ⟨he, hB⟩ : e = .returned (.agg #[.int .u8 1, .bool false, .slice a' l' c', .string ⟨#[]⟩, .int .i64 0, .slice none 0 0, .slice none 0 0]) ∧ (byN s n ≠ 0 → Blk w1 (wr.heap.size + 1) [byN s n, 0]) := by
     unfold bytV at hV
     rcases hcase with ⟨h0, h1⟩ | ⟨h0, h1, h2⟩
     ·rw [if_pos h0] at hV
      exact ⟨by rw [h1, hV], fun h => (h h0).elim⟩
     ·rw [if_neg h0] at hV
      exact ⟨by rw [h1, hV], fun _ => h2⟩
    subst he
    have HC : Hid _ := hC
    have HB : Hid (byN s n ≠ 0 → Blk w1 (wr.heap.size + 1) [byN s n, 0]) := hB
    have hR1 : RowG (w1.alloc (.cells #[.int .u8 1, .bool false, .slice a' l' c', .string ⟨#[]⟩, .int .i64 0, .slice none 0 0, .slice none 0 0] 26)) 7 _ n := (HI.out.row.upd hU1 (by simp)).upd ((Upd.refl [] w1).alloc _) (by simp)
    have tn := Tb.new w1 #[.int .u8 1, .bool false, .slice a' l' c', .string ⟨#[]⟩, .int .i64 0, .slice none 0 0, .slice none 0 0] _ rfl
    have hcl : ∀ j u, ([.int .u8 1, .bool false, .slice a' l' c', .string ⟨#[]⟩, .int .i64 0, .slice none 0 0, .slice none 0 0] : List Value)[j]? = some u → (w1.alloc (.cells #[.int .u8 1, .bool false, .slice a' l' c', .string ⟨#[]⟩, .int .i64 0, .slice none 0 0, .slice none 0 0] 26)).cell? ((⟨w1.heap.size, 0, none⟩ : Addr).add j) = some u := fun j u hj => by
     rw [Addr.add_lit, Nat.zero_add, tn.cell j]
     simpa using hj
    have hone : ∀ u ∈ ([.int .u8 1, .bool false, .slice a' l' c', .string ⟨#[]⟩, .int .i64 0, .slice none 0 0, .slice none 0 0] : List Value), u.oneCell' = true := by
     intro u hu
     simp only [List.mem_cons, List.not_mem_nil, or_false] at hu
     rcases hu with h | h | h | h | h | h | h <;> subst h <;> rfl
    have HCL : Hid _ := hcl
    have HR1 : Hid _ := hR1
    clear hcase hV hl' hC hB tn hcl hR1 hbe
    go_wp2_with (at_builtin; refine wpList_appendG rfl _ _ 24 rfl Tryz.underlying24 hi hz0 hz1 hz2 rfl rfl (Hid.out HR1) ⟨w1.heap.size, 0, none⟩ 1 1 [.int .u8 1, .bool false, .slice a' l' c', .string ⟨#[]⟩, .int .i64 0, .slice none 0 0, .slice none 0 0] rfl rfl (Hid.out HCL) hone (by omega) (by omega) (by omega) ?_; intro g' cap' w3 hR3 hG3 hN3)
    obtain ⟨G', hG'⟩ := HI.out.step hU1 hs1 HB.out 26 hR3 (by rw [HC.out]; exact hG3) (by rw [HC.out]; exact hN3)
    exact ⟨⟨n + 1, G', by omega, by simp, hG', by rw [hW] at hG'; exact ((Upd.refl [] w).alloc _).trans hG'.upd⟩, by simp [intOf]; omega⟩
   ·have hnn : n = s.size := by omega
    subst hnn
    obtain ⟨a3, c3, rfl, _⟩ := hI.row.form
    have hcap : s.size ≤ c3 ∧ c3 ≤ 9223372036854775807 := by
     rcases hI.row with ⟨e, h0⟩ | ⟨g, cap, e, _, h1, h2, _⟩
     ·simp only [Value.slice.injEq] at e
      omega
     ·simp only [Value.slice.injEq] at e
      unfold maxLen at h2
      omega
    obtain ⟨b, hb⟩ : ∃ b, okS (ofT s) = b := ⟨_, rfl⟩
    have HIN : Hid (InB (Pl 0 W.heap.size) wr (d + 2) [.int .u8 7, .bool false, .slice none 0 0, .string ⟨#[]⟩, .int .i64 0, .slice a3 s.size c3, .slice none 0 0] (ofT s)) := ⟨none, a3, none, 0, c3, 0, by simp, Or.inl rfl, Dig.nil, hI.inb d, Or.inl rfl⟩
    have HSP : Hid (SepR W.heap.size wr.heap.size wr (d + 1) (.slice a3 s.size c3) ((List.range s.size).map fun j => bytT (byN s j))) := hI.sep d
    have HF : Hid _ := fit_gen (d + 2) s.size c3 0 0 a3 none wr (ofT s) b hb (InB.plain _ _ _ HIN.out) (ofT_small s (by omega))
    have HTZ : Hid (Tb wr w.heap.size #[.int .u8 0, .bool false, .slice none 0 0, .string ⟨#[]⟩, .int .i64 0, .slice none 0 0, .slice none 0 0]) := tz.mono hI.upd (by simp)
    have HU : Hid (Upd [] w wr) := hU
    have HOB : Hid (okS (ofT s) = b) := hb
    have hWr : W.heap.size ≤ wr.heap.size := hI.upd.size
    clear hI hU tz hU0 hb
    go_wp2_with fail
    refine Calls.mono HF.out ?_
    rintro e w5 ⟨rfl, hU5⟩
    have hsW : W.heap.size = w.heap.size + 1 := by rw [hW]; simp
    have tz5 := HTZ.out.mono hU5 (by simp)
    go_wp2_with (refine store_V _ rfl _ _ rfl _ _ _ _ _ _ _ _ _ _ _ _ _ _ _ rfl rfl tz5 rfl ?_; intro w6 hT6 hU6)
    exact ret_T Tryz.results26 rfl _ _ rfl hT6 rfl (by rw [HOB.out]; exact cons_fin 0 W.heap.size (d + 1) w.heap.size s.size c3 0 0 a3 none (ofT s) b w w5 w6 (Nat.le_refl _) (by omega) (Nat.zero_le _) wr.heap.size wr.heap.size _ [] rfl (by omega) (HSP.out.upd hU5 (by simp)) ⟨[], [.slice none 0 0], nilR w5 (d + 1), nilA, fun x hx => (nilK x hx).elim⟩ (HU.out.trans hU5) hcap.1 hcap.2 (InB.upd hU5 (by simp) (fun b hb _ => hb) _ _ _ HIN.out) hU6)
end Go.Proofs.YtalhbbabijlngaaGreatDoor
namespace Go.Proofs.YtalhbbabijlngaaGreatDoor
open Go.RowKit
theorem szR_map (l : List Nat) : l.length ≤ szR (l.map bytT) := by
 induction l with
 | nil => simp [szR]
 | cons x r ih =>
  simp only [List.map_cons, szR, List.length_cons]
  have : 1 ≤ szT (bytT x) := by simp only [bytT, szT, szR, ownZ]; simp
  omega
theorem ofT_long (s : ByteArray) (h : 2048 < s.size) : okS (ofT s) = false := by
 have h1 := szR_map ((List.range s.size).map (byN s))
 rw [← ofT_map] at h1
 simp only [List.length_map, List.length_range] at h1
 cases hk : okS (ofT s) with
 | false => rfl
 | true =>
  rw [okS_iff] at hk
  have h2 := hk.2
  unfold ofT at h2
  simp only [szT, ownZ, List.length_map, List.length_range, List.length_nil] at h2
  simp at h2
  omega
theorem ofT_pick (s : ByteArray) : pickT (decide (s.size ≤ 2048) && okS (ofT s)) (ofT s) = pickT (okS (ofT s)) (ofT s) := by
 by_cases h : s.size ≤ 2048
 ·rw [decide_eq_true h, Bool.true_and]
 ·rw [ofT_long s (by omega), Bool.and_false]
end Go.Proofs.YtalhbbabijlngaaGreatDoor
namespace Go.Proofs.YtalhbbabijlngaaGreatDoor
open Go.RowKit
structure OfL (lo d : Nat) (I : List Tm) (ov : Value) (k : Nat) (wr : World) : Prop where
 kl : k ≤ I.length
 row : RowG wr 7 ov k
 blk : ∀ g, ov.ownBlock = some g → lo ≤ g
 its : ∃ C : Nat → List Value, Hs wr 7 ov k C ∧ ∀ j (hj : j < I.length), j < k → (C j).length = 7 ∧ InB (fun b => lo ≤ b ∧ ov.ownBlock ≠ some b) wr d (C j) I[j]
theorem OfL.upd {lo d k : Nat} {I : List Tm} {ov : Value} {S : List Nat} {w w' : World} (h : OfL lo d I ov k w) (hu : Upd S w w') (hS : ∀ x, x ∈ S → x < lo) : OfL lo d I ov k w' := by
 have hn : ∀ g, ov.ownBlock = some g → g ∉ S := fun g hg hm => by have := h.blk g hg; have := hS g hm; omega
 obtain ⟨C, h1, h2⟩ := h.its
 exact ⟨h.kl, h.row.upd hu hn, h.blk, C, h1.upd h.row hu hn, fun j hj hk => ⟨(h2 j hj hk).1, InB.upd hu (fun b hb hm => by have := hS b hm; omega) (fun b hb _ => hb) _ _ _ (h2 j hj hk).2⟩⟩
theorem OfL.grew {lo d k g' : Nat} {I : List Tm} {ov : Value} {w w' : World} (h : OfL lo d I ov k w) (hG : Grew 7 w w' ov k g') : OfL lo d I ov k w' := by
 obtain ⟨C, h1, h2⟩ := h.its
 refine ⟨h.kl, hG.row h.row, h.blk, C, hG.kept h1 (Nat.le_refl _), fun j hj hk => ⟨(h2 j hj hk).1, InB.upd hG.upd (fun b hb hm => ?_) (fun b hb _ => hb.1) _ _ _ (h2 j hj hk).2.tight⟩⟩
 simp at hm
 subst hm
 rcases hG.at' with h | h
 ·exact hb.1.2 h
 ·omega
theorem OfL.step {lo d k g' cap' nb m : Nat} {w w3 : World} {I : List Tm} {ov : Value} {cs : List Value} (h : OfL lo d I ov k w) (hk : k < I.length) (hl : lo ≤ m) (hov : ∀ g, ov.ownBlock = some g → g < m) (_hnb : m ≤ nb) (hc7 : cs.length = 7) (hin : InB (fun g => m ≤ g ∧ g ≠ nb) w d cs I[k]) (hlt : lo ≤ w.heap.size)
  (hR3 : RowG w3 7 (.slice (some ⟨g', 0, none⟩) (k + 1) cap') (k + 1)) (hG : Grew 7 w w3 ov k g') (hN : ∀ j, j < 1 * 7 → w3.cell? ⟨g', k * 7 + j, none⟩ = cs[j]?) : OfL lo d I (.slice (some ⟨g', 0, none⟩) (k + 1) cap') (k + 1) w3 := by
 obtain ⟨C, h1, h2⟩ := h.its
 obtain ⟨E, hE⟩ : ∃ E : Nat → List Value, E = fun j => if j = k then cs else C j := ⟨_, rfl⟩
 have hEk : E k = cs := by rw [hE]; simp
 have hEj : ∀ j, j < k → E j = C j := fun j hj => by rw [hE]; simp; omega
 have hgb : lo ≤ g' := by
  rcases hG.at' with e | e
  ·exact h.blk g' e
  ·omega
 have hHa : Hs w 7 ov k E := fun g l c e i j hi hj => by rw [hEj i hi]; exact h1 g l c e i j hi hj
 refine ⟨hk, hR3, fun g hg => by cases hg; exact hgb, E, hG.has1 hHa h.row (fun j hj => by rw [hEk]; exact hN j (by omega)), fun j hj hjk => ?_⟩
 by_cases e : j = k
 ·subst e
  rw [hEk]
  refine ⟨hc7, InB.upd hG.upd (fun b hb hm => ?_) (fun b hb _ => ⟨by omega, fun he => ?_⟩) _ _ _ hin.tight⟩
  ·simp at hm
   subst hm
   rcases hG.at' with h | h
   ·have := hov _ h; omega
   ·omega
  ·have he2 : g' = b := by simpa [Value.ownBlock] using he
   subst he2
   rcases hG.at' with h | h
   ·have := hov _ h; omega
   ·omega
 ·have hj2 : j < k := by omega
  rw [hEj j hj2]
  obtain ⟨h7, hi2⟩ := h2 j hj hj2
  refine ⟨h7, InB.upd hG.upd (fun b hb hm => ?_) (fun b hb _ => ⟨hb.1.1, fun he => ?_⟩) _ _ _ hi2.tight⟩
  ·simp at hm
   subst hm
   rcases hG.at' with h | h
   ·exact hb.1.2 h
   ·omega
  ·have he2 : g' = b := by simpa [Value.ownBlock] using he
   subst he2
   rcases hG.at' with h | h
   ·exact hb.1.2 h
   ·omega
theorem OfL.full {lo d : Nat} {I : List Tm} {ov : Value} {w : World} (h : OfL lo d I ov I.length w) : ∃ a c, ov = .slice a I.length c ∧ RowB (fun b => lo ≤ b) (InB (fun b => lo ≤ b) w d) w a I := by
 obtain ⟨C, h1, h2⟩ := h.its
 rcases h.row with ⟨rfl, h0⟩ | ⟨g, cap, rfl, hlt, _⟩
 ·exact ⟨none, 0, by rw [h0], Or.inl (List.eq_nil_of_length_eq_zero h0)⟩
 ·refine ⟨_, _, rfl, Or.inr ⟨g, 0, rfl, h.blk g rfl, hlt, fun i hi => ?_⟩⟩
  obtain ⟨h7, hi2⟩ := h2 i hi hi
  refine ⟨C i, h7, fun j hj => by rw [Nat.zero_add]; exact h1 g _ _ rfl i j hi hj, InB.upd (Upd.refl [] w) (by simp) (fun b hb _ => hb.1) _ _ _ hi2⟩
structure OyB (w0 : World) (ob k : Nat) (I : List Tm) (ov : Value) (wr : World) (D : Nat → Prop) (w' : World) : Prop where
 u : Upd [] w0 w'
 lt : w0.heap.size + 2 ≤ wr.heap.size ∧ wr.heap.size ≤ w'.heap.size ∧ ob = w0.heap.size + 1
 tz : Tb w' w0.heap.size #[.int .u8 0, .bool false, .slice none 0 0, .string ⟨#[]⟩, .int .i64 0, .slice none 0 0, .slice none 0 0]
 ol : OfL (w0.heap.size + 2) 1 I ov k w'
 ox : ¬ D 10 → Tb w' ob (outC ov (.slice none 0 0))
theorem OyB.ext {w0 wr w' : World} {ob k : Nat} {I : List Tm} {ov : Value} {D D' : Nat → Prop} (hD : D 10 → D' 10) (h : OyB w0 ob k I ov wr D w') : OyB w0 ob k I ov wr D' w' := ⟨h.u, h.lt, h.tz, h.ol, fun n => h.ox fun e => n (hD e)⟩
theorem OyB.step {w0 wr w w' : World} {ob k : Nat} {I : List Tm} {ov : Value} {D : Nat → Prop} (h : OyB w0 ob k I ov wr D w) (hu : Upd [] w w') : OyB w0 ob k I ov wr D w' :=
 ⟨h.u.trans hu, ⟨h.lt.1, Nat.le_trans h.lt.2.1 hu.size, h.lt.2.2⟩, h.tz.mono hu (by simp), h.ol.upd hu (by simp), fun n => (h.ox n).mono hu (by simp)⟩
theorem OyB.grew {w0 wr w w' : World} {ob k g' : Nat} {I : List Tm} {ov : Value} {D : Nat → Prop} (h : OyB w0 ob k I ov wr D w) (hG : Grew 7 w w' ov k g') : OyB w0 ob k I ov wr D w' := by
 obtain ⟨l1, l2, l3⟩ := h.lt
 have hg : w0.heap.size + 2 ≤ g' := by
  rcases hG.at' with e | e
  ·exact h.ol.blk g' e
  ·omega
 have hu := hG.upd
 exact ⟨h.u.then hu (by simp; omega), ⟨l1, Nat.le_trans l2 hu.size, l3⟩, h.tz.mono hu (by simp; omega), h.ol.grew hG, fun n => (h.ox n).mono hu (by simp; omega)⟩
def OyS (ob : Nat) (ov : Value) (i : Nat) : List Nat := if i = 8 then ov.ownBlock.toList else if i = 10 then [ob] else []
def OyR (s : ByteArray) (lo ob k x m : Nat) (I : List Tm) (t : Tm) (ov : Value) : Nat → Value → World → Prop
 | 0, v, _ => v = .pointer (some ⟨ob, 5, none⟩)
 | 1, v, _ => v = ov
 | 2, v, _ => v = .string s
 | 3, v, _ => v = .int .i64 (k : Nat)
 | 4, v, _ => v = .int .u8 (x : Nat)
 | 5, v, _ => v = .int .i64 (x : Nat)
 | 6, v, w' => TmS m 1 w' t v
 | 7, v, w' => ∃ nb cs, v = .slice (some ⟨nb, 0, none⟩) 1 1 ∧ m ≤ nb ∧ cs.length = 7 ∧ Tb w' nb cs.toArray ∧ InB (fun g => m ≤ g ∧ g ≠ nb) w' 1 cs t
 | 8, v, w' => (∃ g' cap', v = .slice (some ⟨g', 0, none⟩) (k + 1) cap') ∧ OfL lo 1 I v (k + 1) w'
 | 9, v, _ => v = .pointer (some ⟨ob, 5, none⟩)
 | 10, _, w' => ∃ g' cap', Tb w' ob (outC (.slice (some ⟨g', 0, none⟩) (k + 1) cap') (.slice none 0 0)) ∧ OfL lo 1 I (.slice (some ⟨g', 0, none⟩) (k + 1) cap') (k + 1) w'
 | _, _, _ => True
theorem OyR.stab {s : ByteArray} {lo ob k x m : Nat} {I : List Tm} {t : Tm} {ov : Value} (hob : ob < lo) (hlm : lo ≤ m) (hov : ∀ g, ov.ownBlock = some g → g < m) (i j : Nat) (v : Value) (w w' : World) (hij : i ≠ j) (h8 : j = 10 → i ≠ 8) (h : OyR s lo ob k x m I t ov j v w) (hu : Upd (OyS ob ov i) w w') : OyR s lo ob k x m I t ov j v w' := by
 have hS : ∀ y, y ∈ OyS ob ov i → y < m := by
  intro y hy
  unfold OyS at hy
  split at hy
  ·exact hov y (by simpa using hy)
  ·split at hy
   ·simp at hy; omega
   ·simp at hy
 match j, h with
 | 0, h => exact h
 | 1, h => exact h
 | 2, h => exact h
 | 3, h => exact h
 | 4, h => exact h
 | 5, h => exact h
 | 6, h => exact TmS.upd h hu hS
 | 7, ⟨nb, cs, e, hm, h7, ht, hi⟩ => exact ⟨nb, cs, e, hm, h7, ht.mono hu (fun hmm => by have := hS _ hmm; omega), InB.upd hu (fun g hg hmm => by have := hS _ hmm; omega) (fun g hg _ => hg) _ _ _ hi⟩
 | 8, ⟨e, ho⟩ =>
  have hS2 : ∀ y, y ∈ OyS ob ov i → y < lo := by
   intro y hy
   unfold OyS at hy
   rw [if_neg hij] at hy
   split at hy
   ·simp at hy; omega
   ·simp at hy
  exact ⟨e, ho.upd hu hS2⟩
 | 9, h => exact h
 | 10, ⟨g', cap', ht, ho⟩ =>
  have he : OyS ob ov i = [] := by unfold OyS; rw [if_neg (h8 rfl), if_neg hij]
  rw [he] at hu
  exact ⟨g', cap', ht.mono hu (by simp), ho.upd hu (by simp)⟩
 | _ + 11, _ => trivial
theorem Grew.updO {w w' : World} {n g' : Nat} {ov : Value} (hG : Grew 7 w w' ov n g') : Upd ov.ownBlock.toList w w' := by
 rcases hG.at' with h | h
 ·rw [h]; exact hG.upd
 ·exact (Upd.refl _ w).then hG.upd (by simp; omega)
theorem wp_move {o : Oper} {a : Act} {w : World} {K : Act → World → Prop} {Q : Exit → Act → World → Prop} (x : Operand) (ho : o.op = .move x) (v : Value) (hx : a.eval x = v) (h : K (a.put o.dst v) w) : o.wp Tryz.prog a w K Q := by
 refine wp_pure ?_ h
 unfold execOp
 simp [ho, hx]
theorem wp_indexS {o : Oper} {a : Act} {w : World} {K : Act → World → Prop} {Q : Exit → Act → World → Prop} (x y : Operand) (ho : o.op = .index 9 x y) (s : ByteArray) (k : Nat) (hk : k < s.size) (hx : a.eval x = .string s) (hy : a.eval y = .int .i64 (k : Nat)) (h : K (a.put o.dst (.int .u8 ((byN s k : Nat) : Int))) w) : o.wp Tryz.prog a w K Q := by
 refine wp_pure ?_ h
 unfold execOp
 simp only [ho, hx, hy]
 rw [byN_eq s k hk, Sem.run_bind, idx_str s k hk w]
 rfl
theorem wp_conv8 {o : Oper} {a : Act} {w : World} {K : Act → World → Prop} {Q : Exit → Act → World → Prop} (x : Operand) (ho : o.op = .convert 5 2 x) (n : Nat) (hn : n < 256) (hx : a.eval x = .int .u8 (n : Nat)) (h : K (a.put o.dst (.int .i64 (n : Nat))) w) : o.wp Tryz.prog a w K Q := by
 refine wp_pure ?_ h
 unfold execOp
 simp only [ho, hx]
 simp [go_sem, Tryz.underlying5, Tryz.underlying2]
 rw [IntKind.wrap_i64]; omega
theorem wp_bslice1 {o : Oper} {a : Act} {w : World} {K : Act → World → Prop} {Q : Exit → Act → World → Prop} (x : Operand) (ho : o.op = .buildSlice 24 1 #[(0, x)]) (k num : Int) (neg : Bool) (s : ByteArray) (a1 a2 a3 : Option Addr) (n1 n2 n3 c1 c2 c3 : Nat) (hx : a.eval x = .agg #[.int .u8 k, .bool neg, .slice a1 n1 c1, .string s, .int .i64 num, .slice a2 n2 c2, .slice a3 n3 c3])
  (h : K (a.put o.dst (.slice (some ⟨w.heap.size, 0, none⟩) 1 1)) (w.alloc (.cells #[.int .u8 k, .bool neg, .slice a1 n1 c1, .string s, .int .i64 num, .slice a2 n2 c2, .slice a3 n3 c3] 26))) : o.wp Tryz.prog a w K Q := by
 obtain ⟨i0, hi, hz0, hz1, hz2⟩ := info_parts info_term3
 have hr : (Instr.buildSlice 24 1 #[(0, .agg #[.int .u8 k, .bool neg, .slice a1 n1 c1, .string s, .int .i64 num, .slice a2 n2 c2, .slice a3 n3 c3])]).run Tryz.prog w = .ok (.slice (some ⟨w.heap.size, 0, none⟩) 1 1) (w.alloc (.cells #[.int .u8 k, .bool neg, .slice a1 n1 c1, .string s, .int .i64 num, .slice a2 n2 c2, .slice a3 n3 c3] 26)) := by
  refine run_buildSlice w 24 26 1 _ _ i0 _ Tryz.underlying24 hi hz0 (by rw [hz1]; decide) (by rw [hz1]; decide) ?_
  rw [hz1]
  kernel_rfl
 unfold Oper.wp execOp
 simp only [ho, Sem.run_bind, List.map_toArray, List.map_cons, List.map_nil, hx, hr, Result.andThen_ok]
 exact h
end Go.Proofs.YtalhbbabijlngaaGreatDoor
namespace Go.Proofs.YtalhbbabijlngaaGreatDoor
open Go.RowKit
theorem ofT_cnt (l : List Nat) : cntR (l.map bytT) ≤ 2 * l.length := by
 induction l with
 | nil => simp [cntR]
 | cons x r ih =>
  have hx : cntT (bytT x) ≤ 2 := by
   unfold bytT bytL
   have : (⟨#[]⟩ : ByteArray).size = 0 := rfl
   split <;> simp [cntT, cntR, this]
  rw [List.map_cons, cntR, List.length_cons]
  omega
def ofI (s : ByteArray) : List Tm := (List.range s.size).map fun j => bytT (byN s j)
theorem ofI_len (s : ByteArray) : (ofI s).length = s.size := by unfold ofI; simp
theorem ofI_get (s : ByteArray) (k : Nat) (hk : k < (ofI s).length) : (ofI s)[k] = bytT (byN s k) := by simp [ofI]
theorem RowB.deepN {P : Nat → Prop} {w : World} {a : Option Addr} {I : List Tm} (h : RowB P (InB P w 1) w a I) : ∀ d, RowB P (InB P w (d + 1)) w a I
 | 0 => h
 | d + 1 => RowB.deep (RowB.deepN h d)
set_option maxHeartbeats 8000000 in
set_option maxRecDepth 100000 in
theorem ROf_in (s : ByteArray) (w : World) (d : Nat) (_hs : s.size ≤ 10000) :
  Calls Tryz.prog 29 #[.string s] w (ConsW w (d + 2) (pickT (okS (ofT s)) (ofT s))) := by
 by_cases hlong : 4096 < s.size
 ·have hno := ofT_long s (by omega)
  rw [hno, pickT, if_neg (by simp)]
  have tz := Tb.new w #[.int .u8 0, .bool false, .slice none 0 0, .string ⟨#[]⟩, .int .i64 0, .slice none 0 0, .slice none 0 0] _ rfl
  have hU0 : Upd [] w (w.alloc (.cells #[.int .u8 0, .bool false, .slice none 0 0, .string ⟨#[]⟩, .int .i64 0, .slice none 0 0, .slice none 0 0] 26)) := (Upd.refl [] w).alloc _
  clear hno
  go_enter Tryz.func29, Tryz.ntmps29
  go_wp2_with (refine store_V _ rfl _ _ rfl _ _ _ _ _ _ _ _ _ _ _ _ _ _ _ rfl rfl tz rfl ?_; intro w2 hT2 hU2)
  exact ret_T Tryz.results29 rfl _ _ rfl hT2 rfl ⟨zeroC, rfl, rfl, zero_in _ _, hU0.then hU2 (by simp)⟩
 ·have hsm : s.size ≤ 4096 := by omega
  have HCT : Hid (cntT (ofT s) ≤ 12100) := by
   show _ ≤ _
   have h1 := ofT_cnt ((List.range s.size).map (byN s))
   rw [List.map_map] at h1
   have h2 : cntT (ofT s) = 1 + 0 + 0 + cntR ((List.range s.size).map (bytT ∘ byN s)) + 0 := rfl
   rw [List.length_map, List.length_range] at h1
   omega
  have HTZ : Hid (tsz (ofT s) ≤ 1353245080330) := ofT_small s _hs
  have tz := (Tb.new w #[.int .u8 0, .bool false, .slice none 0 0, .string ⟨#[]⟩, .int .i64 0, .slice none 0 0, .slice none 0 0] _ rfl).old (.cells #[.int .u8 0, .bool false, .slice none 0 0, .string ⟨#[]⟩, .int .i64 0, .slice none 0 0, .slice none 0 0] 26)
  have tbz : Tb ((w.alloc (.cells #[.int .u8 0, .bool false, .slice none 0 0, .string ⟨#[]⟩, .int .i64 0, .slice none 0 0, .slice none 0 0] 26)).alloc (.cells #[.int .u8 0, .bool false, .slice none 0 0, .string ⟨#[]⟩, .int .i64 0, .slice none 0 0, .slice none 0 0] 26)) (w.heap.size + 1) #[.int .u8 0, .bool false, .slice none 0 0, .string ⟨#[]⟩, .int .i64 0, .slice none 0 0, .slice none 0 0] := Tb.new _ _ _ (by simp)
  have hU0 : Upd [] w ((w.alloc (.cells #[.int .u8 0, .bool false, .slice none 0 0, .string ⟨#[]⟩, .int .i64 0, .slice none 0 0, .slice none 0 0] 26)).alloc (.cells #[.int .u8 0, .bool false, .slice none 0 0, .string ⟨#[]⟩, .int .i64 0, .slice none 0 0, .slice none 0 0] 26)) := ((Upd.refl [] w).alloc _).alloc _
  go_enter Tryz.func29, Tryz.ntmps29
  go_wp2_with (refine store_V _ rfl _ _ rfl _ _ _ _ _ _ _ _ _ _ _ _ _ _ _ rfl rfl tbz rfl ?_; intro w2 hT2 hU2)
  have tz2 := tz.mono hU2 (by simp)
  have U2 : Upd [] w w2 := hU0.then hU2 (by simp)
  have hl2 := hT2.lt
  have HIL : Hid ((ofI s).length = s.size) := ofI_len s
  clear tz tbz hU0 hU2
  go_loopw [4] (fun i wr => ∃ (k : Nat) (ov : Value), k ≤ s.size ∧ i = .int .i64 k ∧ OyB w (w.heap.size + 1) k (ofI s) ov wr (fun _ => False) wr) (fun i _ => s.size - (intOf i).toNat)
  case atStart => exact ⟨0, .slice none 0 0, Nat.zero_le _, rfl, U2, ⟨by omega, Nat.le_refl _, rfl⟩, tz2, ⟨Nat.zero_le _, Or.inl ⟨rfl, rfl⟩, fun g hg => (by cases hg), fun _ => [], Hs.zero _ _ _ _, fun j _ hj => by omega⟩, fun _ => hT2⟩
  case round =>
   obtain ⟨k, ov, hk, rfl, hB0⟩ := hrel
   by_cases hk2 : k < s.size
   ·have hlt' : (k : Int) < (s.size : Int) := by omega
    clear hT2 tz2 U2
    go_wp2_with fail
    have hkI : k < (ofI s).length := by rw [HIL.out]; exact hk2
    have hIk : (ofI s)[k] = bytT (byN s k) := ofI_get s k hkI
    have hbl := byN_lt s k
    have hlm := hB0.lt.1
    have hov : ∀ g, ov.ownBlock = some g → g < wr.heap.size := fun g hg => hB0.ol.row.lt g hg
    have hilen : (ofI s).length ≤ 4096 := by rw [HIL.out]; exact hsm
    refine region_resD (by kernel_rfl) 11 rfl [some 16, some 17, some 18, some 19, some 20, some 21, some 22, some 23, some 24, some 25, none] rfl (by decide) rfl (by kernel_rfl) (OyS (w.heap.size + 1) ov) (OyB w (w.heap.size + 1) k (ofI s) ov wr) (OyR s (w.heap.size + 2) (w.heap.size + 1) k (byN s k) wr.heap.size (ofI s) (bytT (byN s k)) ov) (hB0.step ((Upd.refl [] wr).drew)) (fun D D' w5 hD hb => hb.ext (hD 10).1) (fun D i j v w5 w6 hij hni hdj hcl h hu => OyR.stab (by omega) hlm hov i j v w5 w6 hij (fun e e2 => by subst e; subst e2; exact hni (hcl 10 _ hdj rfl ⟨8, .data⟩ (by simp) rfl)) h hu) ?_ ?_
    ·intro D vs a' w5 i o' hA hB hR hS hi hni ho haf hcl
     have hc : i = 0 ∨ i = 1 ∨ i = 2 ∨ i = 3 ∨ i = 4 ∨ i = 5 ∨ i = 6 ∨ i = 7 ∨ i = 8 ∨ i = 9 ∨ i = 10 := by omega
     rcases hc with rfl | rfl | rfl | rfl | rfl | rfl | rfl | rfl | rfl | rfl | rfl <;> cases ho
     ·exact ops_wp rfl rfl (wp_field5 (.tmp 3) rfl (w.heap.size + 1) (hA.ev 3 (by decide)) ⟨_, rfl, hB.ext Or.inr, rfl, Upd.refl _ _⟩)
     ·have D0 := haf ⟨0, .data⟩ (by simp) rfl
      have n7 : ¬ D 10 := fun h7 => hni (hcl 10 _ h7 rfl ⟨1, .phase⟩ (by simp) rfl)
      exact ops_wp rfl rfl (wp_loadS (.tmp 16) rfl _ _ ((hS 0 16 rfl D0).trans (hR 0 D0)) ((hB.ox n7).cell 5) ⟨_, rfl, hB.ext Or.inr, rfl, Upd.refl _ _⟩)
     ·exact ops_wp rfl rfl (wp_move (.tmp 0) rfl _ (hA.ev 0 (by decide)) ⟨_, rfl, hB.ext Or.inr, rfl, Upd.refl _ _⟩)
     ·exact ops_wp rfl rfl (wp_move (.tmp 4) rfl _ (hA.ev 4 (by decide)) ⟨_, rfl, hB.ext Or.inr, rfl, Upd.refl _ _⟩)
     ·have D2 := haf ⟨2, .data⟩ (by simp) rfl
      have D3 := haf ⟨3, .data⟩ (by simp) rfl
      exact ops_wp rfl rfl (wp_indexS (.tmp 18) (.tmp 19) rfl s k hk2 ((hS 2 18 rfl D2).trans (hR 2 D2)) ((hS 3 19 rfl D3).trans (hR 3 D3)) ⟨_, rfl, hB.ext Or.inr, rfl, Upd.refl _ _⟩)
     ·have D4 := haf ⟨4, .data⟩ (by simp) rfl
      exact ops_wp rfl rfl (wp_conv8 (.tmp 20) rfl (byN s k) hbl ((hS 4 20 rfl D4).trans (hR 4 D4)) ⟨_, rfl, hB.ext Or.inr, rfl, Upd.refl _ _⟩)
     ·have D5 := haf ⟨5, .data⟩ (by simp) rfl
      have hcall : Calls Tryz.prog 68 #[.int .i64 ((byN s k : Nat) : Int)] w5 fun e w' => ∃ u, e = .returned u ∧ Upd [] w5 w' ∧ TmS w5.heap.size 1 w' (bytT (byN s k)) u := by
       refine (rOf_byte (byN s k) w5 hbl).mono ?_
       rintro e w' ⟨g1, cs, h7, rfl, g5⟩
       exact ⟨_, rfl, g1, cs, h7, rfl, g5⟩
      refine ops_wp rfl rfl (wp_call' rfl Tryz.call68 ((hS 5 21 rfl D5).trans (hR 5 D5)) hcall ?_)
      rintro u w6 ⟨hu, hr⟩
      refine ⟨_, rfl, (hB.step hu).ext Or.inr, ?_, hu⟩
      obtain ⟨cs, e7, e5, hr⟩ := hr
      exact ⟨cs, e7, e5, InB.upd (Upd.refl [] w6) (by simp) (fun g hg _ => by have := hB.lt; omega) _ _ _ hr⟩
     ·have D6 := haf ⟨6, .data⟩ (by simp) rfl
      obtain ⟨cs, e7, e6, hr⟩ := hR 6 D6
      obtain ⟨k5, nu5, ng5, st5, aa5, ab5, ac5, na5, nb5, nc5, ca5, cb5, cc5, rfl⟩ := InB.shapeC hr
      have hlt := hB.lt
      have hu : Upd [] w5 (w5.alloc (.cells #[.int .u8 k5, .bool ng5, .slice aa5 na5 ca5, .string st5, .int .i64 nu5, .slice ab5 nb5 cb5, .slice ac5 nc5 cc5] 26)) := (Upd.refl [] w5).alloc _
      exact ops_wp rfl rfl (wp_bslice1 (.tmp 22) rfl _ _ _ _ _ _ _ _ _ _ _ _ _ ((hS 6 22 rfl D6).trans e6) ⟨_, rfl, (hB.step hu).ext Or.inr, ⟨w5.heap.size, _, rfl, by omega, e7, Tb.new _ _ _ rfl, InB.upd hu (by simp) (fun g hg _ => ⟨hg.1, by omega⟩) _ _ _ hr.tight⟩, hu⟩)
     ·have D1 := haf ⟨1, .data⟩ (by simp) rfl
      have D7 := haf ⟨7, .data⟩ (by simp) rfl
      obtain ⟨nb, cs, e7, hm, h7, ht, hin⟩ := hR 7 D7
      have hone := (InB.plain _ _ _ hin).one
      have hlt := hB.lt
      refine ops_wp rfl rfl (wp_appendT (.tmp 17) (.tmp 23) rfl ((hS 1 17 rfl D1).trans (hR 1 D1)) hB.ol.row ⟨nb, 0, none⟩ 1 1 cs ((hS 7 23 rfl D7).trans e7) (by omega) (fun j u hj => by rw [Addr.add_lit, Nat.zero_add, ht.cell j]; simpa using hj) (fun u hu => Array.all_eq_true_iff_forall_mem.1 hone u (by simpa using hu)) (by omega) (by omega) fun g' cap' w6 hR6 hG6 hN6 => ⟨_, rfl, (hB.grew hG6).ext Or.inr, ⟨⟨g', cap', rfl⟩, ?_⟩, ?_⟩)
      ·exact hB.ol.step hkI hlm hov hm h7 (by rw [hIk]; exact hin) (by omega) hR6 hG6 hN6
      ·exact hG6.updO
     ·exact ops_wp rfl rfl (wp_field5 (.tmp 3) rfl (w.heap.size + 1) (hA.ev 3 (by decide)) ⟨_, rfl, hB.ext Or.inr, rfl, Upd.refl _ _⟩)
     ·have D9 := haf ⟨9, .data⟩ (by simp) rfl
      have D8 := haf ⟨8, .data⟩ (by simp) rfl
      obtain ⟨⟨g', cap', e8⟩, hol⟩ := hR 8 D8
      rw [e8] at hol
      have ox := hB.ox hni
      have hu : Upd [w.heap.size + 1] w5 (w5.setCell ⟨w.heap.size + 1, 5, none⟩ (.slice (some ⟨g', 0, none⟩) (k + 1) cap')) := (Upd.refl _ _).setCell (Or.inr (by simp)) _
      have hlt := hB.lt
      exact ops_wp rfl rfl (wp_storeS (.tmp 25) (.tmp 24) rfl _ _ (k + 1) cap' _ ((hS 9 25 rfl D9).trans (hR 9 D9)) ((hS 8 24 rfl D8).trans e8) (ox.cell 5) (frozen_of_row _ _ _ _ _ ox) ⟨_, rfl, ⟨hB.u.then hu (by simp), ⟨hlt.1, Nat.le_trans hlt.2.1 hu.size, hlt.2.2⟩, hB.tz.mono hu (by simp), hB.ol.upd hu (by simp), fun n => absurd (Or.inl rfl) n⟩, ⟨g', cap', ox.put5, hol.upd hu (by simp)⟩, hu⟩)
    ·intro vs w5 hv hB hR
     obtain ⟨v0, r0, rfl, hv0⟩ := list_cons hv
     obtain ⟨v1, r1, rfl, hv1⟩ := list_cons hv0
     obtain ⟨v2, r2, rfl, hv2⟩ := list_cons hv1
     obtain ⟨v3, r3, rfl, hv3⟩ := list_cons hv2
     obtain ⟨v4, r4, rfl, hv4⟩ := list_cons hv3
     obtain ⟨v5, r5, rfl, hv5⟩ := list_cons hv4
     obtain ⟨v6, r6, rfl, hv6⟩ := list_cons hv5
     obtain ⟨v7, r7, rfl, hv7⟩ := list_cons hv6
     obtain ⟨v8, r8, rfl, hv8⟩ := list_cons hv7
     obtain ⟨v9, r9, rfl, hv9⟩ := list_cons hv8
     obtain ⟨v10, r10, rfl, hv10⟩ := list_cons hv9
     obtain ⟨g', cap', to5, hol⟩ := hR 10 (by omega)
     have HN : Hid (OyB w (w.heap.size + 1) (k + 1) (ofI s) (.slice (some ⟨g', 0, none⟩) (k + 1) cap') w5 (fun _ => False) w5) := ⟨hB.u, ⟨by have := hB.lt; omega, Nat.le_refl _, rfl⟩, hB.tz, hol, fun _ => to5⟩
     clear hR hB hB0 to5 hol hIk hov
     simp only [putAll, Act.put, List.setIfInBounds_toArray, List.set_cons_succ, List.set_cons_zero]
     go_wp2_with fail
     go_roundw
     case rel => exact ⟨k + 1, _, by omega, by go_num, HN.out⟩
     case measure => simp [intOf]; omega
   ·have hkk : k = s.size := by omega
    subst hkk
    have ox := hB0.ox (fun h => h)
    have tz5 := hB0.tz
    have HU5 : Hid (Upd [] w wr) := hB0.u
    have hol := hB0.ol
    rw [← HIL.out] at hol
    obtain ⟨a5, c5, e5, hr5⟩ := hol.full
    subst e5
    have HIN : Hid (InB (fun b => w.heap.size + 2 ≤ b) wr (d + 2) [.int .u8 7, .bool false, .slice none 0 0, .string ⟨#[]⟩, .int .i64 0, .slice a5 (ofI s).length c5, .slice none 0 0] (ofT s)) :=
     ⟨none, a5, none, 0, c5, 0, rfl, Or.inl rfl, Dig.nil, hr5.deepN d, Or.inl rfl⟩
    clear hT2 tz2 U2 hr5 hol hB0
    rw [HIL.out] at ox HIN
    have hlw := tz5.lt
    go_wp2_with (first | (refine load_T _ rfl _ rfl _ _ rfl ox rfl ?_) | fail)
    refine Calls.mono (right2_inW (d + 2) _ [.int .u8 7, .bool false, .slice none 0 0, .string ⟨#[]⟩, .int .i64 0, .slice a5 s.size c5, .slice none 0 0] (ofT s) (InB.plain _ _ _ HIN.out) HTZ.out HCT.out) ?_
    rintro e w7 ⟨rfl, hu7⟩
    have to8 := ox.mono hu7 (by simp)
    have tz8 := tz5.mono hu7 (by simp)
    have HU8 : Hid (Upd [] w w7) := HU5.out.trans hu7
    have HI8 : Hid (InB (fun b => w.heap.size + 2 ≤ b) w7 (d + 2) [.int .u8 7, .bool false, .slice none 0 0, .string ⟨#[]⟩, .int .i64 0, .slice a5 s.size c5, .slice none 0 0] (ofT s)) := InB.upd hu7 (by simp) (fun b hb _ => hb) _ _ _ HIN.out
    clear hu7 HIN ox tz5
    cases hfin : okS (ofT s) with
    | true =>
     have HE : Hid (pickT (okS (ofT s)) (ofT s) = ofT s) := by show _ = _; rw [hfin]; rfl
     rw [hfin] at HE
     go_wp2_with (first | (refine load_T _ rfl _ rfl _ _ rfl to8 rfl ?_) | (refine store_V _ rfl _ _ rfl _ _ _ _ _ _ _ _ _ _ _ _ _ _ _ rfl rfl tz8 rfl ?_; intro w9 hT9 hU9) | fail)
     refine ret_T Tryz.results29 rfl _ _ rfl hT9 rfl ⟨[.int .u8 7, .bool false, .slice none 0 0, .string ⟨#[]⟩, .int .i64 0, .slice a5 s.size c5, .slice none 0 0], rfl, rfl, ?_, HU8.out.then hU9 (by simp)⟩
     first | rw [HE.out] | rw [hfin, HE.out]
     exact InB.plain _ _ _ (InB.upd (Q := fun _ => True) hU9 (fun b hb hm => by simp at hm; omega) (fun _ _ _ => trivial) _ _ _ HI8.out)
    | false =>
     have HE : Hid (pickT false (ofT s) = zeroT) := rfl
     go_wp2_with (first | (refine store_V _ rfl _ _ rfl _ _ _ _ _ _ _ _ _ _ _ _ _ _ _ rfl rfl tz8 rfl ?_; intro w9 hT9 hU9) | fail)
     refine ret_T Tryz.results29 rfl _ _ rfl hT9 rfl ⟨zeroC, rfl, rfl, ?_, HU8.out.then hU9 (by simp)⟩
     first | rw [HE.out] | rw [hfin, HE.out]
     exact zero_in _ _
end Go.Proofs.YtalhbbabijlngaaGreatDoor
namespace Go.Proofs.YtalhbbabijlngaaGreatDoor
open Go.RowKit
def LentS (lo d : Nat) (t : Tm) (PX : Nat → Prop) (X : Array Value) (w : World) : Prop := ∃ (cs LB RB : List Value), X = cs.toArray ∧ KIn PX w d cs t ∧ BT 12 w d cs t LB RB ∧ Apt LB RB ∧ ∀ z, z ∈ KB LB RB → PX z ∧ lo ≤ z
theorem LentS.stay {lo d : Nat} {t : Tm} (PX : Nat → Prop) (X : Array Value) (w w' : World) (U : List Nat) (h : LentS lo d t PX X w) (hu : Upd U w w') (hP : ∀ z, PX z → z ∉ U) : LentS lo d t PX X w' := by
 obtain ⟨cs, LB, RB, e, h1, h2, h3, h4⟩ := h
 exact ⟨cs, LB, RB, e, KIn.keep hu hP (fun _ hx => hx) _ _ _ h1, BT.upd hu _ _ _ _ _ (fun x hx => hP x (h4 x hx).1) h2, h3, h4⟩
theorem LentS.call {d : Nat} {t : Tm} {w0 : World} {cs : List Value} (h : In w0 d cs t) (hs : tsz t ≤ 1353245080330) (V : World) (hu : Upd [] w0 V) :
  Calls Tryz.prog 8 #[.agg cs.toArray] V fun e w' => ∃ u, e = .returned u ∧ Upd [] V w' ∧ ∃ X PX, u = .agg X ∧ X.size = 7 ∧ X.all (·.oneCell') = true ∧ LentS w0.heap.size d t PX X w' ∧ ∀ z, PX z → V.heap.size ≤ z ∧ z < w'.heap.size := by
 refine (LentTerm_sep d V cs t (In.mono hu d cs t h) hs).mono ?_
 rintro e w' ⟨hU, cs', h7, rfl, hK, LB, RB, hB, hA, hL⟩
 exact ⟨_, rfl, hU, cs'.toArray, fun x => V.heap.size ≤ x ∧ x < w'.heap.size, rfl, by simpa using h7, (KIn.plain _ _ _ hK).one, ⟨cs', LB, RB, rfl, KIn.within d cs' t hK, hB, hA, fun z hz => ⟨⟨hL z hz, BT.lt _ _ _ _ _ hB z hz⟩, Nat.le_trans hu.size (hL z hz)⟩⟩, fun z hz => hz⟩
theorem RowQ.wide {w : World} {sz n x : Nat} {v : Value} (hsz : 1 ≤ sz) (h : RowQ w 12 sz v n) (hx : v.ownBlock = some x) : (w.cell? ⟨x, 7, none⟩).isSome = true := by
 obtain ⟨h1, h0 | ⟨g, cap, e, hc⟩⟩ := h
 ·omega
 ·subst e
  rcases h1 with ⟨e, _⟩ | ⟨g', cap', e, _, _, _, ht⟩
  ·cases e
  ·cases e
   have e : g = x := by simpa [Value.ownBlock] using hx
   subst e
   have hm : 12 * 1 ≤ cap * sz := Nat.mul_le_mul (by omega) hsz
   have := (ht 7 (by omega)).1
   rwa [Nat.zero_add] at this
theorem BT.wide {w : World} : ∀ (d : Nat) (cs : List Value) (t : Tm) (LB RB : List Value), BT 12 w d cs t LB RB → ∀ x, x ∈ KB LB RB → (w.cell? ⟨x, 7, none⟩).isSome = true := by
 intro d
 induction d with
 | zero => intro cs t LB RB h; exact h.elim
 | succ d ih =>
  intro cs t LB RB h x hx
  have row : ∀ (v : Value) (I : List Tm) (LB RB : List Value), RowBT 12 (BT 12 w d) w v I LB RB → x ∈ KB LB RB → (w.cell? ⟨x, 7, none⟩).isSome = true := by
   intro v I LB RB h hx
   obtain ⟨ls, rs, rfl, rfl, h3, h4⟩ := h
   rcases KB_row.1 hx with hx | ⟨i, hi, hx⟩
   ·exact h3.wide (by omega) hx
   ·obtain ⟨cs, _, _, k3⟩ := h4 i hi
    exact ih _ _ _ _ k3 x hx
  cases t with
  | mk k num neg L s I T =>
   obtain ⟨vl, vi, vt, l1, l2, r1, r2, rfl, h1, h2, h3, rfl, rfl⟩ := h
   rcases KB_two.1 hx with hx | hx | hx
   ·exact h1.wide (by omega) hx
   ·exact row _ _ _ _ h2 hx
   ·exact row _ _ _ _ h3 hx
theorem BT.box {w : World} {d g : Nat} {cs : List Value} {t : Tm} {LB RB : List Value} {X : Array Value} (h : BT 12 w d cs t LB RB) (hT : Tb w g X) (hX : X.size = 7) : g ∉ KB LB RB := fun hm => by
 have := BT.wide _ _ _ _ _ h g hm
 rw [hT.cell 7, Array.getElem?_eq_none (by omega)] at this
 cases this
theorem KIn.cap {P : Nat → Prop} {w : World} {d : Nat} {cs : List Value} {t : Tm} (h : KIn P w d cs t) : CapC cs := by
 cases d with
 | zero => exact h.elim
 | succ d =>
  cases t with
  | mk k num neg L s I T =>
   obtain ⟨g, gi, gt, c, ci, ct, rfl, _, _, _, _, _, h6, _⟩ := h
   exact ⟨_, _, _, rfl, by have := h6.2.2.1; omega, h6.2.2.2.1⟩
theorem consS_call {d : Nat} {h t : Tm} {w0 : World} {cs cs' : List Value} (hh : In w0 (d + 1) cs h) (ht : In w0 (d + 1) cs' t) (hzh : tsz h ≤ 1353245080330) (hz : tsz t ≤ 1353245080330) (V : World) (hu : Upd [] w0 V) :
  Calls Tryz.prog 24 #[.agg cs.toArray, .agg cs'.toArray] V fun e w' => ∃ u, e = .returned u ∧ Upd [] V w' ∧ ∃ X PX, u = .agg X ∧ X.size = 7 ∧ X.all (·.oneCell') = true ∧ CopR w0.heap.size (d + 2) (consS h t) PX X w' ∧ ∀ z, PX z → V.heap.size ≤ z ∧ z < w'.heap.size := by
 refine (Cons_sep d V cs cs' h t (In.mono hu _ _ _ hh) (In.mono hu _ _ _ ht) hzh hz).mono ?_
 rintro e w' ⟨cs2, h7, rfl, hI, _, hU, LB, RB, hB, hA, hK⟩
 have hIB := In.toB (P := fun b => b < w'.heap.size) (fun b hb => hb) (Upd.refl [] w') _ _ _ hI
 exact ⟨_, rfl, hU, cs2.toArray, fun x => V.heap.size ≤ x ∧ x < w'.heap.size, rfl, by simpa using h7, hI.one, ⟨cs2, LB, RB, rfl, InB.inKB _ _ _ _ _ hIB hB, hB, hA, fun z hz => ⟨⟨hK z hz, BT.lt _ _ _ _ _ hB z hz⟩, Nat.le_trans hu.size (hK z hz)⟩⟩, fun z hz => hz⟩
structure OwT (lo hi : Nat) (w : World) (d : Nat) (cs : List Value) (t : Tm) (LB RB : List Value) : Prop where
 inb : InB (fun b => b ∈ KB LB RB) w d cs t
 bt : BT 0 w d cs t LB RB
 ap : Apt LB RB
 rg : ∀ z, z ∈ KB LB RB → lo ≤ z ∧ z < hi
theorem OwT.upd {lo hi d : Nat} {S : List Nat} {w w' : World} {cs : List Value} {t : Tm} {LB RB : List Value} (h : OwT lo hi w d cs t LB RB) (hu : Upd S w w') (hS : ∀ x, x ∈ S → x < lo ∨ hi ≤ x) : OwT lo hi w' d cs t LB RB := by
 have hn : ∀ b, b ∈ KB LB RB → b ∉ S := fun b hb hm => by
  have h1 := h.rg b hb
  rcases hS b hm with h2 | h2 <;> omega
 exact ⟨InB.upd hu hn (fun b hb _ => hb) _ _ _ h.inb, BT.upd hu _ _ _ _ _ hn h.bt, h.ap, h.rg⟩
theorem OwT.in {lo hi d : Nat} {w : World} {cs : List Value} {t : Tm} {LB RB : List Value} (h : OwT lo hi w d cs t LB RB) : In w d cs t := InB.plain _ _ _ h.inb
theorem OwT.of {lo hi d : Nat} {w : World} {cs : List Value} {t : Tm} (h : SepTB lo hi w d cs t) (hI : In w d cs t) : ∃ LB RB, OwT lo hi w d cs t LB RB := by
 obtain ⟨LB, RB, hB, hA, hK⟩ := h
 have hIB := In.toB (P := fun b => b < w.heap.size) (fun b hb => hb) (Upd.refl [] w) _ _ _ hI
 exact ⟨LB, RB, InB.inKB _ _ _ _ _ hIB hB, hB, hA, hK⟩
theorem OwT.tight {lo hi d : Nat} {w : World} {cs : List Value} {t : Tm} {LB RB : List Value} (h : OwT lo hi w d cs t LB RB) : OwT lo w.heap.size w d cs t LB RB := ⟨h.inb, h.bt, h.ap, fun z hz => ⟨(h.rg z hz).1, BT.lt _ _ _ _ _ h.bt z hz⟩⟩
def Sml (t : Tm) : Prop := okS t = true ∨ t = zeroT
theorem Sml.tsz {t : Tm} (h : Sml t) : tsz t ≤ 1353245080330 := by
 rcases h with h | h
 ·exact okS_tsz h
 ·rw [h]; exact zero_tsz
theorem Sml.bel {t : Tm} (h : Sml t) : belT t ≤ 15000 := by
 rcases h with h | h
 ·have h1 := bel_lt t
  rw [okS_iff] at h
  omega
 ·rw [h]; decide
theorem sml_cons (h t : Tm) : Sml (consS h t) := by
 unfold consS
 split
 ·rename_i e
  rw [Bool.and_eq_true] at e
  exact Or.inl e.2
 ·exact Or.inr rfl
theorem sml_pick {b : Bool} {t : Tm} (h : b = true → okS t = true) : Sml (pickT b t) := by
 cases b with
 | false => exact Or.inr rfl
 | true => exact Or.inl (h rfl)
theorem sml_head (t : Tm) : Sml (pickT (splits t && okS t) (headT t)) := sml_pick fun h => by
 rw [Bool.and_eq_true] at h
 exact (parts_ok t h.2 h.1).1
theorem sml_rest (t : Tm) : Sml (pickT (splits t && okS t) (restT t)) := sml_pick fun h => by
 rw [Bool.and_eq_true] at h
 exact (parts_ok t h.2 h.1).2.1
theorem sml_of (s : ByteArray) : Sml (pickT (okS (ofT s)) (ofT s)) := sml_pick fun h => h
theorem ops_wpG {P : Program} {ops : Array Oper} {Q : Exit → Act → World → Prop} {i j d : Nat} {K : Act → World → Prop} {a : Act} {w : World} {o oj : Oper} (ho : ops[i]? = some o) (hg : o.guard = some (j, true)) (hj : ops[j]? = some oj) (hd : oj.dst = some d) (hv : a.tmps.getD d undef = .bool true) (h : o.wp P a w K Q) : wpOp P ops Q i K a w := by
 have hs : a.tmps[d]? = some (.bool true) := by
  rw [Array.getD_eq_getD_getElem?] at hv
  cases hx : a.tmps[d]? with
  | none => rw [hx] at hv; cases hv
  | some u => rw [hx] at hv; rw [show u = .bool true from hv]
 have hw : Region.wanted o (yielded ops a.tmps) = true := by
  unfold Region.wanted yielded
  simp [hg, hj, hd, hs]
 unfold wpOp
 simp only [ho, hw, if_true]
 exact Or.inl h
theorem wp_pick {o : Oper} {a : Act} {w : World} {K : Act → World → Prop} {Q : Exit → Act → World → Prop} (c x y : Operand) (ho : o.op = .pick c x y) (hc : a.eval c = .bool true) (v : Value) (hx : a.eval x = v) (h : K (a.put o.dst v) w) : o.wp Tryz.prog a w K Q := by
 refine wp_pure ?_ h
 unfold execOp
 simp only [ho, hc, hx]
 simp [asBool]
theorem wp_eqlB {o : Oper} {a : Act} {w : World} {K : Act → World → Prop} {Q : Exit → Act → World → Prop} (x y : Operand) {ty : TypeId} (ho : o.op = .binOp .eql 4 x y ty) (b : Bool) (hx : a.eval x = .bool b) (hy : a.eval y = .bool b) (h : K (a.put o.dst (.bool true)) w) : o.wp Tryz.prog a w K Q := by
 refine wp_pure ?_ h
 unfold execOp
 simp only [ho, hx, hy]
 simp [go_sem, Tryz.underlying4]
end Go.Proofs.YtalhbbabijlngaaGreatDoor
