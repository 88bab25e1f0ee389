/- KeptTerms and KeptTerm of the kit, by their contracts. -/
import Derived.Test.YtalhbbabijlngaaGreatDoorJBB
import Derived.Test.YtalhbbabijlngaaGreatDoorJAG
import Derived.Test.YtalhbbabijlngaaGreatDoorSizB
import Derived.Test.YtalhbbabijlngaaGreatDoorJAV
import Derived.Test.YtalhbbabijlngaaGreatDoorJAD
import Derived.Test.YtalhbbabijlngaaGreatDoorJAT
namespace Go.Proofs.YtalhbbabijlngaaGreatDoor
open Go.RowKit
def KeptSaid (d : Nat) : Prop := ∀ (w : World) (cs cs' : List Value) (t : Tm) (P : Nat → Prop), KIn P w d cs t → In w d cs' t → tsz t ≤ 1353245080330 → Calls Tryz.prog 13 #[.agg cs.toArray, .agg cs'.toArray] w fun e w' => e = .returned (.bool true) ∧ Upd [] w w'
def markTm (j : Nat) : Tm := .mk 0 ((8000024 + j : Nat) : Int) false [] ⟨#[]⟩ [] []
theorem markIn (w : World) (j : Nat) : In w 1 (markCells j) (markTm j) := ⟨none, none, none, 0, 0, 0, rfl, Or.inl rfl, Dig.nil, Or.inl rfl, Or.inl rfl⟩
theorem markSz (j : Nat) : tsz (markTm j) ≤ 1353245080330 := by simp [markTm, tsz, tszs]
set_option maxHeartbeats 4000000 in
set_option maxRecDepth 100000 in
theorem KeptTerms_in (d : Nat) (ih : KeptSaid d) (w : World) (P : Nat → Prop) (g cap : Nat) (a : Option Addr) (c : Nat) (I : List Tm) (hR : RowK P (KIn P w d) w g cap I) (h : RowAt (In w d) w a I) (hs : tszs I ≤ 1353245080330) :
  Calls Tryz.prog 52 #[.slice (some ⟨g, 0, none⟩) I.length cap, .slice a I.length c] w fun e w' => e = .returned (.bool true) ∧ Upd [] w w' := by
 have hIl := tszs_len I
 have hlen : I.length ≤ 1353245080330 := by omega
 have HS : Hid (tszs I ≤ 1353245080330) := hs
 have HA : Hid (RowAt (In w d) w a I) := h
 have IH : Hid (KeptSaid d) := ih
 obtain ⟨_, hglt, hcap, hcap2, hel, hmk⟩ := hR
 have HEL : Hid (∀ i (hi : i < I.length), ∃ cs : List Value, cs.length = 7 ∧ (∀ j, j < 7 → w.cell? ⟨g, i * 7 + j, none⟩ = cs[j]?) ∧ KIn P w d cs I[i]) := hel
 have HMK : Hid (∀ i, i < 12 → ∀ j, j < 7 → w.cell? ⟨g, (I.length + i) * 7 + j, none⟩ = (markCells i)[j]?) := hmk
 clear hIl hs h ih hel hmk
 go_enter Tryz.func52, Tryz.ntmps52
 go_wp2
 go_loopw [6] (fun i wr => ∃ k : Nat, k ≤ I.length + 12 ∧ i = .int .i64 k ∧ Upd [] w wr) (fun i _ => I.length + 12 - (intOf i).toNat)
 case atStart => exact ⟨0, Nat.zero_le _, rfl, Upd.refl _ _⟩
 case round =>
  obtain ⟨k, hk, rfl, hU⟩ := hrel
  have hgr : g < wr.heap.size := Nat.lt_of_lt_of_le hglt hU.size
  by_cases hk2 : k < I.length + 12
  ·have i2 : (k : Int) < ((I.length + 12 : Nat) : Int) := by omega
   have i3 : (k : Int) < (I.length : Int) + 12 := by omega
   by_cases hkL : k < I.length
   ·rcases HA.out with h0 | ⟨b, o, rfl, hltb, hc⟩
    ·rw [h0] at hkL; simp at hkL
    obtain ⟨cs, hl7, hcell, hki⟩ := HEL.out k hkL
    obtain ⟨cs', hl7', hcell', hin⟩ := hc k hkL
    obtain ⟨q0, q1, q2, q3, q4, q5, q6, rfl⟩ := list7 hl7
    obtain ⟨p0, p1, p2, p3, p4, p5, p6, rfl⟩ := list7 hl7'
    have HSZ : Hid (tsz I[k] ≤ 1353245080330) := Nat.le_trans (tszs_get I k hkL) HS.out
    have HCALL : Hid (∀ n : Ext wr, Calls Tryz.prog 13 #[.agg #[q0, q1, q2, q3, q4, q5, q6], .agg #[p0, p1, p2, p3, p4, p5, p6]] n.W fun e w' => e = .returned (.bool true) ∧ Upd [] n.W w') := fun n =>
     IH.out n.W [q0, q1, q2, q3, q4, q5, q6] [p0, p1, p2, p3, p4, p5, p6] I[k] P (KIn.keep (hU.trans n.h) (fun x _ => by simp) (fun x hx => hx) _ _ _ hki) (In.mono (hU.trans n.h) _ _ _ hin) HSZ.out
    have mc : ∀ (n : Ext wr) j, j < 7 → n.W.cell? ⟨g, k * 7 + j, none⟩ = [q0, q1, q2, q3, q4, q5, q6][j]? := fun n j hj => ((hU.trans n.h).cell (p := ⟨g, k * 7 + j, none⟩) hglt (by simp)).trans (hcell j hj)
    have mc' : ∀ (n : Ext wr) j, j < 7 → n.W.cell? ⟨b, o + (k * 7 + j), none⟩ = [p0, p1, p2, p3, p4, p5, p6][j]? := fun n j hj => ((hU.trans n.h).cell (p := ⟨b, o + (k * 7 + j), none⟩) hltb (by simp)).trans (hcell' j hj)
    have xq0 : ∀ n : Ext wr, n.W.cell? ⟨g, k * 7, none⟩ = some q0 := fun n => mc n 0 (by omega)
    have xp0 : ∀ n : Ext wr, n.W.cell? ⟨b, o + k * 7, none⟩ = some p0 := fun n => mc' n 0 (by omega)
    have xq1 : ∀ n : Ext wr, n.W.cell? ⟨g, k * 7 + 1, none⟩ = some q1 := fun n => mc n 1 (by omega)
    have xp1 : ∀ n : Ext wr, n.W.cell? ⟨b, o + k * 7 + 1, none⟩ = some p1 := fun n => mc' n 1 (by omega)
    have xq2 : ∀ n : Ext wr, n.W.cell? ⟨g, k * 7 + 2, none⟩ = some q2 := fun n => mc n 2 (by omega)
    have xp2 : ∀ n : Ext wr, n.W.cell? ⟨b, o + k * 7 + 2, none⟩ = some p2 := fun n => mc' n 2 (by omega)
    have xq3 : ∀ n : Ext wr, n.W.cell? ⟨g, k * 7 + 3, none⟩ = some q3 := fun n => mc n 3 (by omega)
    have xp3 : ∀ n : Ext wr, n.W.cell? ⟨b, o + k * 7 + 3, none⟩ = some p3 := fun n => mc' n 3 (by omega)
    have xq4 : ∀ n : Ext wr, n.W.cell? ⟨g, k * 7 + 4, none⟩ = some q4 := fun n => mc n 4 (by omega)
    have xp4 : ∀ n : Ext wr, n.W.cell? ⟨b, o + k * 7 + 4, none⟩ = some p4 := fun n => mc' n 4 (by omega)
    have xq5 : ∀ n : Ext wr, n.W.cell? ⟨g, k * 7 + 5, none⟩ = some q5 := fun n => mc n 5 (by omega)
    have xp5 : ∀ n : Ext wr, n.W.cell? ⟨b, o + k * 7 + 5, none⟩ = some p5 := fun n => mc' n 5 (by omega)
    have xq6 : ∀ n : Ext wr, n.W.cell? ⟨g, k * 7 + 6, none⟩ = some q6 := fun n => mc n 6 (by omega)
    have xp6 : ∀ n : Ext wr, n.W.cell? ⟨b, o + k * 7 + 6, none⟩ = some p6 := fun n => mc' n 6 (by omega)
    have d1 : decide ((k : Int) < (I.length : Int)) = true := by simp; omega
    have d2 : decide (k < I.length) = true := by simp; omega
    have d3 : decide (I.length ≤ k) = false := by simp; omega
    have d4 : decide ((k : Int) ≥ (I.length : Int)) = false := by simp; omega
    have d5 : decide ((I.length : Int) ≤ (k : Int)) = false := by simp; omega
    have i1 : (k : Int) < (I.length : Int) := by omega
    clear hc hki hin hcell hcell' hl7 hl7' mc mc'
    go_wp2_with fail
    have hne : Nonempty (Ext wr) := ⟨⟨wr, Upd.refl [] wr⟩⟩
    refine wp_region_ext (by kernel_rfl) (by kernel_rfl) ?_
    repeat (go_big_quiet_step ((go_at_call 13; exact Ext.call (HCALL.out _))))
    refine wpQuiet_nil ?_
    intro _ hw'
    obtain ⟨nx, hw''⟩ := hw'
    subst hw''
    go_wp2
    go_roundw
    case rel => exact ⟨k + 1, by omega, by go_num, hU.trans nx.h⟩
    case measure => simp [intOf]; omega
   ·obtain ⟨j, hkj⟩ : ∃ j, k = I.length + j := ⟨k - I.length, by omega⟩
    have hj : j < 12 := by omega
    have mk : (k : Int) - (I.length : Int) = (j : Int) := by omega
    have mc : ∀ (n : Ext wr) i, i < 7 → n.W.cell? ⟨g, k * 7 + i, none⟩ = (markCells j)[i]? := fun n i hi => by
     rw [hkj]
     exact ((hU.trans n.h).cell (p := ⟨g, (I.length + j) * 7 + i, none⟩) hglt (by simp)).trans (HMK.out j hj i hi)
    have xq0 : ∀ n : Ext wr, n.W.cell? ⟨g, k * 7, none⟩ = some (.int .u8 0) := fun n => mc n 0 (by omega)
    have xq1 : ∀ n : Ext wr, n.W.cell? ⟨g, k * 7 + 1, none⟩ = some (.bool false) := fun n => mc n 1 (by omega)
    have xq2 : ∀ n : Ext wr, n.W.cell? ⟨g, k * 7 + 2, none⟩ = some (.slice none 0 0) := fun n => mc n 2 (by omega)
    have xq3 : ∀ n : Ext wr, n.W.cell? ⟨g, k * 7 + 3, none⟩ = some (.string ⟨#[]⟩) := fun n => mc n 3 (by omega)
    have xq4 : ∀ n : Ext wr, n.W.cell? ⟨g, k * 7 + 4, none⟩ = some (.int .i64 ((8000024 + j : Nat) : Int)) := fun n => mc n 4 (by omega)
    have xq5 : ∀ n : Ext wr, n.W.cell? ⟨g, k * 7 + 5, none⟩ = some (.slice none 0 0) := fun n => mc n 5 (by omega)
    have xq6 : ∀ n : Ext wr, n.W.cell? ⟨g, k * 7 + 6, none⟩ = some (.slice none 0 0) := fun n => mc n 6 (by omega)
    have d1 : decide ((k : Int) < (I.length : Int)) = false := by simp; omega
    have d2 : decide (k < I.length) = false := by simp; omega
    have d3 : decide (I.length ≤ k) = true := by simp; omega
    have d4 : decide ((k : Int) ≥ (I.length : Int)) = true := by simp; omega
    have d5 : decide ((I.length : Int) ≤ (k : Int)) = true := by simp; omega
    have HKJ : Hid (k = I.length + j) := hkj
    clear mc hkj
    go_wp2_with fail
    have hne : Nonempty (Ext wr) := ⟨⟨wr, Upd.refl [] wr⟩⟩
    refine wp_region_ext (by kernel_rfl) (by kernel_rfl) ?_
    repeat (go_big_quiet_step (first | (go_at_call 70; exact Ext.call (markTerm_any j _ hj)) | (go_at_call 18; exact Ext.call (SameTerm_in 1 _ (markCells j) (markCells j) (markTm j) (markIn _ j) (markIn _ j) (markSz j)))))
    refine wpQuiet_nil ?_
    intro _ hw'
    obtain ⟨nx, hw''⟩ := hw'
    subst hw''
    go_wp2
    go_roundw
    case rel => exact ⟨k + 1, by omega, by go_num, hU.trans nx.h⟩
    case measure => simp [intOf]; omega
  ·have hkk : k = I.length + 12 := by omega
   have dd : decide ((k : Int) < (I.length : Int) + 12) = false := by simp; omega
   go_wp2
   go_ret
   exact ⟨rfl, hU⟩
end Go.Proofs.YtalhbbabijlngaaGreatDoor
namespace Go.Proofs.YtalhbbabijlngaaGreatDoor
open Go.RowKit
set_option maxHeartbeats 4000000 in
set_option maxRecDepth 100000 in
theorem KeptTerm_step (d : Nat) (ih : KeptSaid d) : KeptSaid (d + 1) := by
 intro w cs cs' t P h h' hs
 have hS := SameTerm_in (d + 1)
 have hplain := KIn.plain (P := P) (w := w) (d + 1) cs t h
 cases t with
 | mk k num neg L s I T =>
  have HSm : Hid (∀ W, Upd [] w W → Calls Tryz.prog 18 #[.agg cs.toArray, .agg cs'.toArray] W fun e w' => e = .returned (.bool true) ∧ Upd [] W w') := fun W hu => hS W cs cs' _ (In.mono hu _ _ _ hplain) (In.mono hu _ _ _ h') (Nat.le_trans hs (by omega))
  obtain ⟨g, gi, gt, c, ci, ct, rfl, hP, hA, hD, hc, hc2, hI, hT⟩ := h
  obtain ⟨b, bi, bt, cb, cbi, cbt, rfl, hA', hD', hI', hT'⟩ := h'
  simp only [tsz] at hs
  have HLm : Hid (∀ W, Upd [] w W → _) := fun W hu => KeptLimbs_any g c b cb L W (by omega) hc hc2 (hA.stay hu (by simp)) (hA'.mono hu) hD
  have keepK : ∀ W, Upd [] w W → ∀ cs t, KIn P w d cs t → KIn P W d cs t := fun W hu => KIn.keep hu (fun x _ => by simp) (fun x hx => hx) d
  have HIt : Hid (∀ W, Upd [] w W → _) := fun W hu => KeptTerms_in d ih W P gi ci bi cbi I (hI.keep hu (fun x _ => by simp) (fun x hx => hx) (keepK W hu)) (hI'.imp hu (In.mono hu d)) (by omega)
  have HTt : Hid (∀ W, Upd [] w W → _) := fun W hu => KeptTerms_in d ih W P gt ct bt cbt T (hT.keep hu (fun x _ => by simp) (fun x hx => hx) (keepK W hu)) (hT'.imp hu (In.mono hu d)) (by omega)
  clear hA hA' hD hD' hI hI' hT hT' hs ih hS hplain keepK
  go_enter Tryz.func13, Tryz.ntmps13
  have u0 := ((Upd.refl [] w).alloc (.cells #[.int .u8 k, .bool neg, .slice (some ⟨g, 0, none⟩) L.length c, .string s, .int .i64 num, .slice (some ⟨gi, 0, none⟩) I.length ci, .slice (some ⟨gt, 0, none⟩) T.length ct] 26)).alloc (.cells #[.int .u8 k, .bool neg, .slice b L.length cb, .string s, .int .i64 num, .slice bi I.length cbi, .slice bt T.length cbt] 26)
  have tx := (Tb.new w #[.int .u8 k, .bool neg, .slice (some ⟨g, 0, none⟩) L.length c, .string s, .int .i64 num, .slice (some ⟨gi, 0, none⟩) I.length ci, .slice (some ⟨gt, 0, none⟩) T.length ct] _ rfl).old (.cells #[.int .u8 k, .bool neg, .slice b L.length cb, .string s, .int .i64 num, .slice bi I.length cbi, .slice bt T.length cbt] 26)
  have ty := Tb.new (w.alloc (.cells #[.int .u8 k, .bool neg, .slice (some ⟨g, 0, none⟩) L.length c, .string s, .int .i64 num, .slice (some ⟨gi, 0, none⟩) I.length ci, .slice (some ⟨gt, 0, none⟩) T.length ct] 26)) #[.int .u8 k, .bool neg, .slice b L.length cb, .string s, .int .i64 num, .slice bi I.length cbi, .slice bt T.length cbt] (w.heap.size + 1) (by simp)
  go_wp2_with (first | (refine load_G _ _ rfl _ _ rfl tx rfl rfl ?_) | (refine load_G _ _ rfl _ _ rfl ty rfl rfl ?_))
  refine (HSm.out _ u0).mono ?_
  rintro e w1 ⟨rfl, hU1⟩
  have tx1 := tx.mono hU1 (by simp)
  have ty1 := ty.mono hU1 (by simp)
  have u1 := u0.trans hU1
  have x2 := tx1.cell 2
  have y2 := ty1.cell 2
  clear u0 tx ty hU1
  go_wp2_with fail
  refine (HLm.out _ u1).mono ?_
  rintro e w2 ⟨rfl, hU2⟩
  have tx2 := tx1.mono hU2 (by simp)
  have ty2 := ty1.mono hU2 (by simp)
  have u2 := u1.trans hU2
  have x5 := tx2.cell 5
  have y5 := ty2.cell 5
  clear tx1 ty1 hU2 x2 y2
  go_wp2_with fail
  refine (HIt.out _ u2).mono ?_
  rintro e w3 ⟨rfl, hU3⟩
  have tx3 := tx2.mono hU3 (by simp)
  have ty3 := ty2.mono hU3 (by simp)
  have u3 := u2.trans hU3
  have x6 := tx3.cell 6
  have y6 := ty3.cell 6
  clear tx2 ty2 hU3 x5 y5
  go_wp2_with fail
  refine (HTt.out _ u3).mono ?_
  rintro e w4 ⟨rfl, hU4⟩
  go_wp2
  go_ret
  exact ⟨rfl, u3.trans hU4⟩
theorem KeptTerm_in : ∀ d, KeptSaid d
 | 0 => fun _ _ _ _ _ h => h.elim
 | d + 1 => KeptTerm_step d (KeptTerm_in d)
end Go.Proofs.YtalhbbabijlngaaGreatDoor
namespace Go.Proofs.YtalhbbabijlngaaGreatDoor
open Go.RowKit
def mkN (k i : Int) : Int := wrap64 (wrap64 (1000003 * wrap64 (k + 7)) + i)
set_option maxHeartbeats 400000 in
theorem markG_any (k i : Int) (w : World) : Calls Tryz.prog 69 #[.int .i64 k, .int .i64 i] w fun e w' => e = .returned (.int .i64 (mkN k i)) ∧ w' = w := by
 have HM : Hid (mkN k i = wrap64 (wrap64 (1000003 * wrap64 (k + 7)) + i)) := rfl
 go_enter Tryz.func69, Tryz.ntmps69
 go_wp2
 go_ret
 rw [HM.out]
 exact ⟨rfl, rfl⟩
def mkTm (k i : Nat) : List Value := [.int .u8 0, .bool false, .slice none 0 0, .string ⟨#[]⟩, .int .i64 (mkN k i), .slice none 0 0, .slice none 0 0]
set_option maxHeartbeats 1000000 in
set_option maxRecDepth 100000 in
theorem markTermG_any (k i : Int) (w : World) : Calls Tryz.prog 70 #[.int .i64 k, .int .i64 i] w fun e w' => e = .returned (.agg #[.int .u8 0, .bool false, .slice none 0 0, .string ⟨#[]⟩, .int .i64 (mkN k i), .slice none 0 0, .slice none 0 0]) ∧ Upd [] w w' := by
 obtain ⟨M, hM⟩ : ∃ M, M = mkN k i := ⟨_, rfl⟩
 have HM : Hid (∀ W, Calls Tryz.prog 69 #[.int .i64 k, .int .i64 i] W fun e w' => e = .returned (.int .i64 M) ∧ w' = W) := fun W => by rw [hM]; exact markG_any k i W
 rw [← hM]
 clear hM
 have u0 := (Upd.refl [] w).alloc (.cells #[.int .u8 0, .bool false, .slice none 0 0, .string ⟨#[]⟩, .int .i64 0, .slice none 0 0, .slice none 0 0] 26)
 have t0 := Tb.new w #[.int .u8 0, .bool false, .slice none 0 0, .string ⟨#[]⟩, .int .i64 0, .slice none 0 0, .slice none 0 0] _ rfl
 go_enter Tryz.func70, Tryz.ntmps70
 go_wp2_with fail
 refine (HM.out _).mono ?_
 rintro e w1 ⟨rfl, hw1⟩
 rw [hw1]
 clear hw1
 go_wp2_with (refine store_V _ rfl _ _ rfl _ _ _ _ _ _ _ _ _ _ _ _ _ _ _ rfl rfl t0 rfl ?_; intro w3 hT3 hU3)
 exact ret_T Tryz.results70 rfl _ _ rfl hT3 rfl ⟨rfl, u0.then hU3 (by simp)⟩
theorem there7 {w : World} {g o : Nat} (h : w.there g o 7) : ((∃ c, w.cell? ⟨g, o, none⟩ = some c) ∧ (∃ c, w.cell? ⟨g, o + 1, none⟩ = some c) ∧ (∃ c, w.cell? ⟨g, o + 2, none⟩ = some c) ∧ (∃ c, w.cell? ⟨g, o + 3, none⟩ = some c) ∧ (∃ c, w.cell? ⟨g, o + 4, none⟩ = some c) ∧ (∃ c, w.cell? ⟨g, o + 5, none⟩ = some c) ∧ ∃ c, w.cell? ⟨g, o + 6, none⟩ = some c) ∧
  w.frozen? ⟨g, o, none⟩ = false ∧ w.frozen? ⟨g, o + 1, none⟩ = false ∧ w.frozen? ⟨g, o + 2, none⟩ = false ∧ w.frozen? ⟨g, o + 3, none⟩ = false ∧ w.frozen? ⟨g, o + 4, none⟩ = false ∧ w.frozen? ⟨g, o + 5, none⟩ = false ∧ w.frozen? ⟨g, o + 6, none⟩ = false := by
 have k : ∀ i, i < 7 → ∃ c, w.cell? ⟨g, o + i, none⟩ = some c := fun i hi => Option.isSome_iff_exists.1 (h i hi).1
 have f : ∀ i, i < 7 → w.frozen? ⟨g, o + i, none⟩ = false := fun i hi => (h i hi).2
 exact ⟨⟨k 0 (by omega), k 1 (by omega), k 2 (by omega), k 3 (by omega), k 4 (by omega), k 5 (by omega), k 6 (by omega)⟩, f 0 (by omega), f 1 (by omega), f 2 (by omega), f 3 (by omega), f 4 (by omega), f 5 (by omega), f 6 (by omega)⟩
theorem setCells7 (w : World) (g o : Nat) (u0 u1 u2 u3 u4 u5 u6 : Value) : ((((((w.setCell ⟨g, o, none⟩ u0).setCell ⟨g, o + 1, none⟩ u1).setCell ⟨g, o + 2, none⟩ u2).setCell ⟨g, o + 3, none⟩ u3).setCell ⟨g, o + 4, none⟩ u4).setCell ⟨g, o + 5, none⟩ u5).setCell ⟨g, o + 6, none⟩ u6 = w.setCells g o [u0, u1, u2, u3, u4, u5, u6] := rfl
theorem room_get {w : World} {g k n : Nat} (h : w.there g 0 n) (hk : k < n) : (∃ c, w.cell? ⟨g, k, none⟩ = some c) ∧ w.frozen? ⟨g, k, none⟩ = false := by
 have := h k hk
 rw [Nat.zero_add] at this
 exact ⟨Option.isSome_iff_exists.1 this.1, this.2⟩
theorem setCell_one (w : World) (g o : Nat) (u : Value) : w.setCell ⟨g, o, none⟩ u = w.setCells g o [u] := rfl
set_option maxHeartbeats 4000000 in
set_option maxRecDepth 100000 in
theorem OverLimbs_any (g n cap : Nat) (w : World) (_hg : g < w.heap.size) (hc : n + 12 ≤ cap) (hc2 : cap ≤ 9223372036854775807) (ht : w.there g 0 cap) :
  Calls Tryz.prog 53 #[.slice (some ⟨g, 0, none⟩) n cap] w fun e w' => e = .returned (.tuple #[]) ∧ Upd [g] w w' := by
 have HT : Hid (w.there g 0 cap) := ht
 clear ht
 go_enter Tryz.func53, Tryz.ntmps53
 go_wp2
 go_loopw [3] (fun i wr => ∃ k : Nat, k ≤ n + 12 ∧ i = .int .i64 k ∧ Upd [g] w wr ∧ wr.there g 0 cap) (fun i _ => n + 12 - (intOf i).toNat)
 case atStart => exact ⟨0, Nat.zero_le _, rfl, Upd.refl _ _, HT.out⟩
 case round =>
  obtain ⟨k, hk, rfl, hU, hth⟩ := hrel
  by_cases hk2 : k < n + 12
  ·have i3 : (k : Int) < (n : Int) + 12 := by omega
   obtain ⟨⟨c0, hc0⟩, hf0⟩ := room_get hth (show k < cap by omega)
   have HTh : Hid (wr.there g 0 cap) := hth
   obtain ⟨M, hM⟩ : ∃ M, M = mkN 2 k := ⟨_, rfl⟩
   have HM : Hid (∀ W, Calls Tryz.prog 69 #[.int .i64 2, .int .i64 k] W fun e w' => e = .returned (.int .i64 M) ∧ w' = W) := fun W => by rw [hM]; exact markG_any 2 k W
   clear hM hth
   go_wp2_with fail
   refine (HM.out _).mono ?_
   rintro e w1 ⟨rfl, hw1⟩
   rw [hw1]
   clear hw1
   go_wp2
   go_roundw
   case rel => exact ⟨k + 1, by omega, by go_num, hU.setCell (Or.inr (by simp)) _, by rw [setCell_one]; exact there_set HTh.out⟩
   case measure => simp [intOf]; omega
  ·have dd : decide ((k : Int) < (n : Int) + 12) = false := by simp; omega
   go_wp2
   go_end0
   exact ⟨rfl, hU⟩
def OverSaid (d : Nat) : Prop := ∀ (w : World) (cs : List Value) (t : Tm) (LB RB : List Value), BT 12 w d cs t LB RB → Apt LB RB → Calls Tryz.prog 14 #[.agg cs.toArray] w fun e w' => e = .returned (.tuple #[]) ∧ Upd (KB LB RB) w w'
theorem Upd.wide {S T : List Nat} {w w' : World} (h : Upd S w w') (hS : ∀ x, x ∈ S → x ∈ T) : Upd T w w' := ⟨h.os, h.tape, h.output, h.size, fun k hk hn => h.block k hk (fun hm => hn (hS k hm))⟩
theorem BT.shape {r : Nat} {w : World} {d : Nat} {cs : List Value} {t : Tm} {LB RB : List Value} (h : BT r w d cs t LB RB) : ∃ (k num : Int) (neg : Bool) (s : ByteArray) (v1 v2 v3 : Value), cs = [.int .u8 k, .bool neg, v1, .string s, .int .i64 num, v2, v3] := by
 cases d with
 | zero => exact h.elim
 | succ d =>
  cases t with
  | mk k num neg L s I T =>
   obtain ⟨vl, vi, vt, l1, l2, r1, r2, rfl, _⟩ := h
   exact ⟨k, num, neg, s, vl, vi, vt, rfl⟩
set_option maxHeartbeats 600000 in
set_option maxRecDepth 100000 in
theorem OverTerms_in (d : Nat) (ih : OverSaid d) (w : World) (v : Value) (I : List Tm) (LB RB : List Value) (h : RowBT 12 (BT 12 w d) w v I LB RB) (ha : Apt LB RB) :
  Calls Tryz.prog 54 #[v] w fun e w' => e = .returned (.tuple #[]) ∧ Upd (KB LB RB) w w' := by
 obtain ⟨ls, rs, rfl, rfl, ⟨hG, hr⟩, hkid⟩ := h
 obtain ⟨a1, a2, a3⟩ := ha.row
 rcases hr with h0 | ⟨g, cap, rfl, hcap⟩
 ·omega
 have hS : ∀ x, x ∈ g :: (List.range I.length).flatMap (fun i => KB (ls i) (rs i)) → x ∈ KB ((List.range I.length).flatMap ls) (.slice (some ⟨g, 0, none⟩) I.length cap :: (List.range I.length).flatMap rs) := fun x hx => by
  rw [KB_row]
  rcases List.mem_cons.1 hx with rfl | hx
  ·exact Or.inl rfl
  ·obtain ⟨i, hi, hx⟩ := List.mem_flatMap.1 hx
   exact Or.inr ⟨i, by simpa using hi, hx⟩
 have hgl := hG.lt g rfl
 rcases hG with ⟨e, _⟩ | ⟨g2, cap2, e, _, _, hmax, hth⟩
 ·cases e
 simp only [Value.slice.injEq, Option.some.injEq, Addr.mk.injEq, and_true, true_and] at e
 obtain ⟨rfl, rfl⟩ := e
 have hmax2 : cap ≤ 9223372036854775807 := by unfold maxLen at hmax; omega
 have HK : Hid (∀ i (hi : i < I.length), ∃ cs : List Value, cs.length = 7 ∧ (∀ g' l c, Value.slice (some ⟨g, 0, none⟩) I.length cap = .slice (some ⟨g', 0, none⟩) l c → ∀ j, j < 7 → w.cell? ⟨g', i * 7 + j, none⟩ = cs[j]?) ∧ BT 12 w d cs I[i] (ls i) (rs i)) := hkid
 have HA1 : Hid (∀ i, i < I.length → Apt (ls i) (rs i)) := a1
 have HA2 : Hid (∀ i j x, i < I.length → j < I.length → i ≠ j → x ∈ KB (ls i) (rs i) → x ∉ KB (ls j) (rs j)) := a2
 have HA3 : Hid (∀ i x, i < I.length → (Value.slice (some ⟨g, 0, none⟩) I.length cap).ownBlock = some x → x ∉ KB (ls i) (rs i)) := a3
 have HTh : Hid (w.there g 0 (cap * 7)) := hth
 have HS : Hid (∀ x, x ∈ g :: (List.range I.length).flatMap (fun i => KB (ls i) (rs i)) → x ∈ KB ((List.range I.length).flatMap ls) (.slice (some ⟨g, 0, none⟩) I.length cap :: (List.range I.length).flatMap rs)) := hS
 have IH : Hid (OverSaid d) := ih
 clear hkid a1 a2 a3 hth ha hS ih hmax
 go_enter Tryz.func54, Tryz.ntmps54
 go_wp2_with fail
 go_loopw [2] (fun i wr => ∃ k : Nat, k ≤ I.length ∧ i = .int .i64 k ∧ Upd ((List.range k).flatMap (fun i => KB (ls i) (rs i))) w wr) (fun i _ => I.length - (intOf i).toNat)
 case atStart => exact ⟨0, Nat.zero_le _, rfl, Upd.refl _ _⟩
 case round =>
  obtain ⟨k, hk, rfl, hU⟩ := hrel
  by_cases hk2 : k < I.length
  ·have i1 : (k : Int) < (I.length : Int) := by omega
   obtain ⟨cs, hl7, hcell, hbt⟩ := HK.out k hk2
   have hgn : g ∉ (List.range k).flatMap (fun i => KB (ls i) (rs i)) := fun hm => by
    obtain ⟨i, hi, hx⟩ := List.mem_flatMap.1 hm
    exact HA3.out i g (by have := List.mem_range.1 hi; omega) rfl hx
   have hbt2 : BT 12 wr d cs I[k] (ls k) (rs k) := BT.upd hU _ _ _ _ _ (fun x hx hm => by
    obtain ⟨i, hi, hx2⟩ := List.mem_flatMap.1 hm
    have := List.mem_range.1 hi
    exact HA2.out k i x hk2 (by omega) (by omega) hx hx2) hbt
   obtain ⟨k1, num1, neg1, s1, v1, v2, v3, rfl⟩ := hbt2.shape
   have mc : ∀ j, j < 7 → wr.cell? ⟨g, k * 7 + j, none⟩ = ([.int .u8 k1, .bool neg1, v1, .string s1, .int .i64 num1, v2, v3] : List Value)[j]? := fun j hj => (hU.cell (p := ⟨g, k * 7 + j, none⟩) hgl hgn).trans (hcell g I.length cap rfl j hj)
   have x0 : wr.cell? ⟨g, k * 7, none⟩ = some (.int .u8 k1) := mc 0 (by omega)
   have x1 : wr.cell? ⟨g, k * 7 + 1, none⟩ = some (.bool neg1) := mc 1 (by omega)
   have x2 : wr.cell? ⟨g, k * 7 + 2, none⟩ = some v1 := mc 2 (by omega)
   have x3 : wr.cell? ⟨g, k * 7 + 3, none⟩ = some (.string s1) := mc 3 (by omega)
   have x4 : wr.cell? ⟨g, k * 7 + 4, none⟩ = some (.int .i64 num1) := mc 4 (by omega)
   have x5 : wr.cell? ⟨g, k * 7 + 5, none⟩ = some v2 := mc 5 (by omega)
   have x6 : wr.cell? ⟨g, k * 7 + 6, none⟩ = some v3 := mc 6 (by omega)
   have HC : Hid _ := IH.out wr _ _ _ _ hbt2 (HA1.out k hk2)
   have HU : Hid (Upd ((List.range k).flatMap (fun i => KB (ls i) (rs i))) w wr) := hU
   clear hbt hbt2 hcell hl7 mc hgn hU
   go_wp2_with fail
   refine Calls.mono HC.out ?_
   rintro e w1 ⟨rfl, hU1⟩
   have hU2 : Upd ((List.range (k + 1)).flatMap (fun i => KB (ls i) (rs i))) w w1 := (HU.out.wide (fun x hx => by rw [List.range_succ, List.flatMap_append]; exact List.mem_append.2 (Or.inl hx))).trans (hU1.wide (fun x hx => by rw [List.range_succ, List.flatMap_append]; exact List.mem_append.2 (Or.inr (by simpa using hx))))
   have HU2 : Hid (Upd ((List.range (k + 1)).flatMap (fun i => KB (ls i) (rs i))) w w1) := hU2
   clear hU1 hU2 x0 x1 x2 x3 x4 x5 x6
   go_wp2
   go_roundw
   case rel => exact ⟨k + 1, by omega, by go_num, HU2.out⟩
   case measure => simp [intOf]; omega
  ·have dd : decide ((k : Int) < (I.length : Int)) = false := by simp; omega
   have hkk : k = I.length := by omega
   rw [hkk] at hU
   have hgn : g ∉ (List.range I.length).flatMap (fun i => KB (ls i) (rs i)) := fun hm => by
    obtain ⟨i, hi, hx⟩ := List.mem_flatMap.1 hm
    exact HA3.out i g (by have := List.mem_range.1 hi; omega) rfl hx
   have HTr : Hid (wr.there g 0 (cap * 7)) := there_upd HTh.out hgl hU hgn
   have HU : Hid (Upd (g :: (List.range I.length).flatMap (fun i => KB (ls i) (rs i))) w wr) := hU.wide (fun x hx => List.mem_cons_of_mem _ hx)
   clear hU hkk hgn
   go_wp2
   go_loopw [4] (fun i wq => ∃ k : Nat, k ≤ I.length + 12 ∧ i = .int .i64 k ∧ Upd (g :: (List.range I.length).flatMap (fun i => KB (ls i) (rs i))) w wq ∧ wq.there g 0 (cap * 7)) (fun i _ => I.length + 12 - (intOf i).toNat)
   case atStart => exact ⟨0, Nat.zero_le _, rfl, HU.out, HTr.out⟩
   case round =>
    obtain ⟨j, hj, rfl, hUj, hthj⟩ := hrel
    clear HU HTr
    by_cases hj2 : j < I.length + 12
    ·have i3 : (j : Int) < (I.length : Int) + 12 := by omega
     have HTj : Hid (wr.there g 0 (cap * 7)) := hthj
     have HUj : Hid (Upd (g :: (List.range I.length).flatMap (fun i => KB (ls i) (rs i))) w wr) := hUj
     have hjc : j < cap := by omega
     obtain ⟨M, hM⟩ : ∃ M, M = mkN 2 j := ⟨_, rfl⟩
     have HM : Hid (∀ W, Calls Tryz.prog 70 #[.int .i64 2, .int .i64 j] W fun e w' => e = .returned (.agg #[.int .u8 0, .bool false, .slice none 0 0, .string ⟨#[]⟩, .int .i64 M, .slice none 0 0, .slice none 0 0]) ∧ Upd [] W w') := fun W => by rw [hM]; exact markTermG_any 2 j W
     clear hUj hthj hM
     go_wp2_with fail
     refine (HM.out _).mono ?_
     rintro e w3 ⟨rfl, hU3⟩
     have hT3 : w3.there g 0 (cap * 7) := there_upd HTj.out (Nat.lt_of_lt_of_le hgl HUj.out.size) hU3 (by simp)
     have hT4 : w3.there g (j * 7) 7 := fun q hq => by
      have hmr := mul_room (sz := 7) hjc
      have := hT3 (j * 7 + q) (by omega)
      rw [Nat.zero_add] at this
      exact this
     have HT3 : Hid (w3.there g 0 (cap * 7)) := hT3
     have HT4 : Hid (w3.there g (j * 7) 7) := hT4
     clear hT3 hT4
     obtain ⟨⟨d0, d1, d2, d3, d4, d5, d6⟩, f0, f1, f2, f3, f4, f5, f6⟩ := there7 HT4.out
     obtain ⟨c0, d0⟩ := d0
     obtain ⟨c1, d1⟩ := d1
     obtain ⟨c2, d2⟩ := d2
     obtain ⟨c3, d3⟩ := d3
     obtain ⟨c4, d4⟩ := d4
     obtain ⟨c5, d5⟩ := d5
     obtain ⟨c6, d6⟩ := d6
     go_wp2
     go_roundw
     case rel =>
      rw [setCells7]
      exact ⟨j + 1, by omega, by go_num, (HUj.out.trans (hU3.wide (by simp))).trans ((setCells_Upd w3 g (j * 7) _).wide (by simp)), there_set HT3.out⟩
     case measure => simp [intOf]; omega
    ·have dd2 : decide ((j : Int) < (I.length : Int) + 12) = false := by simp; omega
     have HUj : Hid (Upd (g :: (List.range I.length).flatMap (fun i => KB (ls i) (rs i))) w wr) := hUj
     clear hUj hthj
     go_wp2
     go_end0
     exact ⟨rfl, HUj.out.wide HS.out⟩
theorem RowQ.limbs {w : World} {v : Value} {n : Nat} (h : RowQ w 12 1 v n) : ∃ g cap, v = .slice (some ⟨g, 0, none⟩) n cap ∧ g < w.heap.size ∧ n + 12 ≤ cap ∧ cap ≤ 9223372036854775807 ∧ w.there g 0 cap := by
 obtain ⟨h1, h2 | ⟨g, cap, rfl, hc⟩⟩ := h
 ·omega
 ·rcases h1 with ⟨e, _⟩ | ⟨g2, cap2, e, hl, _, hm, ht⟩
  ·cases e
  simp only [Value.slice.injEq, Option.some.injEq, Addr.mk.injEq, and_true, true_and] at e
  obtain ⟨rfl, rfl⟩ := e
  rw [Nat.mul_one] at ht
  exact ⟨g, cap, rfl, hl, hc, by unfold maxLen at hm; omega, ht⟩
set_option maxHeartbeats 4000000 in
set_option maxRecDepth 100000 in
theorem OverTerm_step (d : Nat) (ih : OverSaid d) : OverSaid (d + 1) := by
 intro w cs t LB RB h ha
 cases t with
 | mk k num neg L s I T =>
  have hlt0 := BT.lt _ _ _ _ _ h
  obtain ⟨vl, vi, vt, l1, l2, r1, r2, rfl, h1, h2, h3, rfl, rfl⟩ := h
  obtain ⟨a1, a2, a3, a4⟩ := ha.two
  obtain ⟨g, cap, rfl, hgl, hc1, hc2, hth⟩ := h1.limbs
  have tX := Tb.new w #[.int .u8 k, .bool neg, .slice (some ⟨g, 0, none⟩) L.length cap, .string s, .int .i64 num, vi, vt] _ rfl
  have u0 := (Upd.refl [] w).alloc (.cells #[.int .u8 k, .bool neg, .slice (some ⟨g, 0, none⟩) L.length cap, .string s, .int .i64 num, vi, vt] 26)
  have HL : Hid _ := OverLimbs_any g L.length cap _ (Nat.lt_of_lt_of_le hgl u0.size) hc1 hc2 (there_upd hth hgl u0 (by simp))
  have hkb : ∀ x, x ∈ KB (.slice (some ⟨g, 0, none⟩) L.length cap :: (l1 ++ l2)) (r1 ++ r2) → x ≠ w.heap.size := fun x hx e => by have := hlt0 x hx; omega
  have hgn := a4 g rfl
  have HI : Hid (∀ W, Upd [g] w W → Calls Tryz.prog 54 #[vi] W fun e w' => e = .returned (.tuple #[]) ∧ Upd (KB l1 r1) W w') := fun W hu => OverTerms_in d ih W vi I l1 r1 (h2.upd hu (fun x hx hm => by simp at hm; subst hm; exact hgn.1 hx) (fun cs t l q hx hR => BT.upd hu _ _ _ _ _ hx hR)) a1
  have HT : Hid (∀ W, Upd (g :: KB l1 r1) w W → Calls Tryz.prog 54 #[vt] W fun e w' => e = .returned (.tuple #[]) ∧ Upd (KB l2 r2) W w') := fun W hu => OverTerms_in d ih W vt T l2 r2 (h3.upd hu (fun x hx hm => by
   rcases List.mem_cons.1 hm with rfl | hm
   ·exact hgn.2 hx
   ·exact a3 x hm hx) (fun cs t l q hx hR => BT.upd hu _ _ _ _ _ hx hR)) a2
  have HG : Hid (g ≠ w.heap.size ∧ (∀ x, x ∈ KB l1 r1 → x ≠ w.heap.size)) := ⟨hkb g (KB_two.2 (Or.inl rfl)), fun x hx => hkb x (KB_two.2 (Or.inr (Or.inl hx)))⟩
  have HU0 : Hid (Upd [] w _) := u0
  clear h1 h2 h3 ha a1 a2 a3 a4 hth hlt0 hkb ih u0
  go_enter Tryz.func14, Tryz.ntmps14
  have x2 : (w.alloc (.cells #[.int .u8 k, .bool neg, .slice (some ⟨g, 0, none⟩) L.length cap, .string s, .int .i64 num, vi, vt] 26)).cell? ⟨w.heap.size, 2, none⟩ = some (.slice (some ⟨g, 0, none⟩) L.length cap) := tX.cell 2
  go_wp2_with fail
  refine Calls.mono HL.out ?_
  rintro e w1 ⟨rfl, hU1⟩
  have tX1 := tX.mono hU1 (by simp; exact fun e => HG.out.1 e.symm)
  have x5 : w1.cell? ⟨w.heap.size, 5, none⟩ = some vi := tX1.cell 5
  have HU1 : Hid (Upd [g] w w1) := (HU0.out.wide (by simp)).trans hU1
  clear hU1
  go_wp2_with fail
  refine Calls.mono (HI.out _ HU1.out) ?_
  rintro e w2 ⟨rfl, hU2⟩
  have tX2 := tX1.mono hU2 (fun hm => HG.out.2 _ hm rfl)
  have x6 : w2.cell? ⟨w.heap.size, 6, none⟩ = some vt := tX2.cell 6
  have HU2 : Hid (Upd (g :: KB l1 r1) w w2) := (HU1.out.wide (by simp)).trans (hU2.wide (fun x hx => List.mem_cons_of_mem _ hx))
  clear hU2
  go_wp2_with fail
  refine Calls.mono (HT.out _ HU2.out) ?_
  rintro e w3 ⟨rfl, hU3⟩
  have HU3 : Hid (Upd (KB (.slice (some ⟨g, 0, none⟩) L.length cap :: (l1 ++ l2)) (r1 ++ r2)) w w3) := (HU2.out.wide (fun x hx => by
   rw [KB_two]
   rcases List.mem_cons.1 hx with rfl | hx
   ·exact Or.inl rfl
   ·exact Or.inr (Or.inl hx))).trans (hU3.wide (fun x hx => KB_two.2 (Or.inr (Or.inr hx))))
  clear hU3
  go_wp2
  go_end0
  exact ⟨rfl, HU3.out⟩
theorem OverTerm_in : ∀ d, OverSaid d
 | 0 => fun _ _ _ _ _ h => h.elim
 | d + 1 => OverTerm_step d (OverTerm_in d)
end Go.Proofs.YtalhbbabijlngaaGreatDoor
namespace Go.Proofs.YtalhbbabijlngaaGreatDoor
open Go.RowKit
def regCode (k : Nat) : Code → Option Code
 | .region id ops d => if id = k then some (.region id ops d) else none
 | .seq a b => match regCode k a with
  | some c => some c
  | none => regCode k b
 | .cond _ a b => match regCode k a with
  | some c => some c
  | none => regCode k b
 | .block _ c => regCode k c
 | .loop c => regCode k c
 | .scope c => regCode k c
 | _ => none
structure Low (base : Nat) (z : Nat → Prop) (w w' : World) : Prop where
 os : w'.os = w.os
 tape : w'.tape = w.tape
 output : w'.output = w.output
 size : w.heap.size ≤ w'.heap.size
 blk : ∀ k, k < base → ¬ z k → w'.heap[k]? = w.heap[k]?
theorem Low.refl (base : Nat) (z : Nat → Prop) (w : World) : Low base z w w := ⟨rfl, rfl, rfl, Nat.le_refl _, fun _ _ _ => rfl⟩
theorem Low.trans {base : Nat} {z : Nat → Prop} {a b c : World} (h : Low base z a b) (k : Low base z b c) : Low base z a c := ⟨k.os.trans h.os, k.tape.trans h.tape, k.output.trans h.output, Nat.le_trans h.size k.size, fun x hx hz => (k.blk x hx hz).trans (h.blk x hx hz)⟩
theorem Low.of_upd {S : List Nat} {base : Nat} {z : Nat → Prop} {B : Nat} {w w' : World} (hB : base ≤ B) (h : Upd S w w') (hb : B ≤ w.heap.size) (hS : ∀ x, x ∈ S → B ≤ x ∨ z x) : Low base z w w' :=
 ⟨h.os, h.tape, h.output, h.size, fun k hk hz => h.block k (by omega) (fun hm => by
  rcases hS k hm with h1 | h1
  ·omega
  ·exact hz h1)⟩
theorem there_alloc (w : World) (cs : Array Value) (t : TypeId) (k : Nat) (h : k ≤ cs.size) : (w.alloc (.cells cs t)).there w.heap.size 0 k := fun j hj => by
 have hb : (w.alloc (.cells cs t)).heap[w.heap.size]? = some (.cells cs t (0, 0)) := heap_alloc_new w _
 refine ⟨?_, frozen_of_row _ _ _ _ _ hb⟩
 rw [cell_of_row _ _ _ _ _ _ hb, Nat.zero_add, Array.getElem?_eq_getElem (by omega)]
 rfl
theorem room_at {w : World} {sz L m B : Nat} {v : Nat → Value} {n : Nat → Nat} (h : Rs w sz L m B v n) {k : Nat} (hk : k < m) {g cap : Nat} (hv : v k = .slice (some ⟨g, 0, none⟩) (n k) cap) {i : Nat} (hi : i < n k) : w.there g (i * sz) sz := by
 have hrr := h.row k hk
 rw [hv] at hrr
 exact hrr.room hi
theorem ownG_form {w : World} {sz n : Nat} {x : Option Addr} {c g : Nat} (h : RowG w sz (.slice x n c) n) (hg : (Value.slice x n c).ownBlock = some g) : ∃ l c', (Value.slice x n c) = .slice (some ⟨g, 0, none⟩) l c' := by
 rcases h with ⟨e, _⟩ | ⟨g2, c2, e, _⟩
 ·rw [e] at hg; cases hg
 ·rw [e] at hg ⊢
  simp only [Value.ownBlock, Option.some.injEq] at hg
  subst hg
  exact ⟨_, _, rfl⟩
theorem same_mark (M : Int) (w : World) : Calls Tryz.prog 18 #[.agg #[.int .u8 0, .bool false, .slice none 0 0, .string ⟨#[]⟩, .int .i64 M, .slice none 0 0, .slice none 0 0], .agg #[.int .u8 0, .bool false, .slice none 0 0, .string ⟨#[]⟩, .int .i64 M, .slice none 0 0, .slice none 0 0]] w fun e w' => e = .returned (.bool true) ∧ Upd [] w w' := by
 have hin : In w 1 [.int .u8 0, .bool false, .slice none 0 0, .string ⟨#[]⟩, .int .i64 M, .slice none 0 0, .slice none 0 0] (.mk 0 M false [] ⟨#[]⟩ [] []) := ⟨none, none, none, 0, 0, 0, rfl, Or.inl rfl, Dig.nil, Or.inl rfl, Or.inl rfl⟩
 have h := SamG_all 1 w _ _ _ _ hin hin (by simp [tsz, tszs]) (by simp [tsz, tszs])
 rw [(samT_eq _ _).2 rfl] at h
 exact h
end Go.Proofs.YtalhbbabijlngaaGreatDoor
