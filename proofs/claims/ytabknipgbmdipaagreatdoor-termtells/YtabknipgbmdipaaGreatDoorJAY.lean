/- KeptLimbs of the kit, by its contract. -/
import Derived.Test.YtabknipgbmdipaaGreatDoorJAX
import Derived.Deep.QuietTactic
import Derived.BigQuiet
import Derived.Test.YtabknipgbmdipaaGreatDoorJAH

namespace Go.Proofs.YtabknipgbmdipaaGreatDoor
open Go.RowKit

theorem marks_get (i : Nat) (hi : i < 12) : marks.getD i 0 = 8000024 + i := by
  match i, hi with
  | 0, _ => rfl
  | 1, _ => rfl
  | 2, _ => rfl
  | 3, _ => rfl
  | 4, _ => rfl
  | 5, _ => rfl
  | 6, _ => rfl
  | 7, _ => rfl
  | 8, _ => rfl
  | 9, _ => rfl
  | 10, _ => rfl
  | 11, _ => rfl
  | n + 12, h => omega

set_option maxHeartbeats 4000000 in
set_option maxRecDepth 100000 in
theorem KeptLimbs_any (g cap : Nat) (a : Option Addr) (c : Nat) (L : List Nat) (w : World) (hL : L.length ≤ 35184372088700) (hc : L.length + 12 ≤ cap) (hc2 : cap ≤ 9223372036854775807) (HG : At w (some ⟨g, 0, none⟩) (L ++ marks)) (HL : At w a L) (hD : Dig L) :
    Calls Tryz.prog 51 #[.slice (some ⟨g, 0, none⟩) L.length cap, .slice a L.length c] w fun e w' => e = .returned (.bool true) ∧ Upd [] w w' := by
  have HML : Hid ((L ++ marks).length = L.length + 12) := by show (L ++ marks).length = L.length + 12; rw [List.length_append]; rfl
  go_enter Tryz.func51, Tryz.ntmps51
  go_wp2
  go_loopw [6] (fun i wr => ∃ k : Nat, k ≤ L.length + 12 ∧ i = .int .i64 k ∧ Upd [] w wr) (fun i _ => L.length + 12 - (intOf i).toNat)
  case atStart => exact ⟨0, Nat.zero_le _, rfl, Upd.refl _ _⟩
  case round =>
    obtain ⟨k, hk, rfl, hU⟩ := hrel
    by_cases hk2 : k < L.length + 12
    · rcases HG.mono hU with h | ⟨b, o, e, hlt, hcg⟩
      · have := HML.out; rw [h] at this; simp at this
      cases e
      have hx := hcg k (by rw [HML.out]; exact hk2)
      rw [Nat.zero_add] at hx
      by_cases hkL : k < L.length
      · rcases HL.mono hU with h | ⟨b2, o2, rfl, hlt2, hcl⟩
        · rw [h] at hkL; simp at hkL
        have hy := hcl k hkL
        have e : (L ++ marks).getD k 0 = L.getD k 0 := by rw [List.getD_eq_getElem?_getD, List.getD_eq_getElem?_getD, List.getElem?_append_left hkL]
        rw [e] at hx
        obtain ⟨x, hxx⟩ : ∃ x, x = L.getD k 0 := ⟨_, rfl⟩
        have hxl : x < 4294967296 := by rw [hxx]; exact hD.getD _
        rw [← hxx] at hx hy
        have d1 : decide ((k : Int) < (L.length : Int)) = true := by simp; omega
        have d2 : decide ((k : Int) ≥ (L.length : Int)) = false := by simp; omega
        clear hcg hcl e hxx
        have d3 : decide (L.length ≤ k) = false := by simp; omega
        have i1 : (k : Int) < (L.length : Int) := by omega
        have i2 : (k : Int) < ((L.length + 12 : Nat) : Int) := by omega
        have i3 : (k : Int) < (L.length : Int) + 12 := by omega
        go_wp2
        go_quiet (fail)
        go_wp2
        go_roundw
        case rel => exact ⟨k + 1, by omega, by go_num, hU.drewN _⟩
        case measure => simp [intOf]; omega
      · obtain ⟨j, hkj⟩ : ∃ j, k = L.length + j := ⟨k - L.length, by omega⟩
        have hj : j < 12 := by omega
        have e : (L ++ marks).getD k 0 = 8000024 + j := by
          rw [hkj, List.getD_eq_getElem?_getD, List.getElem?_append_right (by omega), Nat.add_sub_cancel_left, ← List.getD_eq_getElem?_getD]
          exact marks_get j hj
        rw [e] at hx
        have mk : (k : Int) - (L.length : Int) = (j : Int) := by omega
        have d1 : decide ((k : Int) < (L.length : Int)) = false := by simp; omega
        have d2 : decide (k < L.length) = false := by simp; omega
        have d3 : decide (L.length ≤ k) = true := by simp; omega
        have i2 : (k : Int) < ((L.length + 12 : Nat) : Int) := by omega
        have i3 : (k : Int) < (L.length : Int) + 12 := by omega
        have HKJ : Hid (k = L.length + j) := hkj
        clear hcg e hkj
        go_wp2
        go_quiet (first | (go_at_call 69; refine Calls.quiet_of_same (mark_any j _ hj)))
        go_wp2
        go_roundw
        case rel => exact ⟨k + 1, by omega, by go_num, hU.drewN _⟩
        case measure => simp [intOf]; omega
    · have hkk : k = L.length + 12 := by omega
      have dd : decide ((k : Int) < (L.length : Int) + 12) = false := by simp; omega
      go_wp2
      go_ret
      exact ⟨rfl, hU⟩

end Go.Proofs.YtabknipgbmdipaaGreatDoor

/- KeptTerms and KeptTerm of the kit, by their contracts. -/
namespace Go.Proofs.YtabknipgbmdipaaGreatDoor
open Go.RowKit

/-- What KeptTerm is to answer, of depth d. -/
def KeptSaid (d : Nat) : Prop := ∀ (w : World) (cs cs' : List Value) (t : Tm) (P : Nat → Prop), KIn P w d cs t → In w d cs' t → tsz t ≤ 1353245080330 → Calls Tryz.prog 13 #[.agg cs.toArray, .agg cs'.toArray] w fun e w' => e = .returned (.bool true) ∧ Upd [] w w'

def markTm (j : Nat) : Tm := .mk 0 ((8000024 + j : Nat) : Int) false [] ⟨#[]⟩ [] []
theorem markIn (w : World) (j : Nat) : In w 1 (markCells j) (markTm j) := ⟨none, none, none, 0, 0, 0, rfl, Or.inl rfl, Dig.nil, Or.inl rfl, Or.inl rfl⟩
theorem markSz (j : Nat) : tsz (markTm j) ≤ 1353245080330 := by simp [markTm, tsz, tszs]

set_option maxHeartbeats 4000000 in
set_option maxRecDepth 100000 in
theorem KeptTerms_in (d : Nat) (ih : KeptSaid d) (w : World) (P : Nat → Prop) (g cap : Nat) (a : Option Addr) (c : Nat) (I : List Tm) (hR : RowK P (KIn P w d) w g cap I) (h : RowAt (In w d) w a I) (hs : tszs I ≤ 1353245080330) :
    Calls Tryz.prog 52 #[.slice (some ⟨g, 0, none⟩) I.length cap, .slice a I.length c] w fun e w' => e = .returned (.bool true) ∧ Upd [] w w' := by
  have hIl := tszs_len I
  have hlen : I.length ≤ 1353245080330 := by omega
  have HS : Hid (tszs I ≤ 1353245080330) := hs
  have HA : Hid (RowAt (In w d) w a I) := h
  have IH : Hid (KeptSaid d) := ih
  obtain ⟨_, hglt, hcap, hcap2, hel, hmk⟩ := hR
  have HEL : Hid (∀ i (hi : i < I.length), ∃ cs : List Value, cs.length = 7 ∧ (∀ j, j < 7 → w.cell? ⟨g, i * 7 + j, none⟩ = cs[j]?) ∧ KIn P w d cs I[i]) := hel
  have HMK : Hid (∀ i, i < 12 → ∀ j, j < 7 → w.cell? ⟨g, (I.length + i) * 7 + j, none⟩ = (markCells i)[j]?) := hmk
  clear hIl hs h ih hel hmk
  go_enter Tryz.func52, Tryz.ntmps52
  go_wp2
  go_loopw [6] (fun i wr => ∃ k : Nat, k ≤ I.length + 12 ∧ i = .int .i64 k ∧ Upd [] w wr) (fun i _ => I.length + 12 - (intOf i).toNat)
  case atStart => exact ⟨0, Nat.zero_le _, rfl, Upd.refl _ _⟩
  case round =>
    obtain ⟨k, hk, rfl, hU⟩ := hrel
    have hgr : g < wr.heap.size := Nat.lt_of_lt_of_le hglt hU.size
    by_cases hk2 : k < I.length + 12
    · have i2 : (k : Int) < ((I.length + 12 : Nat) : Int) := by omega
      have i3 : (k : Int) < (I.length : Int) + 12 := by omega
      by_cases hkL : k < I.length
      · rcases HA.out with h0 | ⟨b, o, rfl, hltb, hc⟩
        · rw [h0] at hkL; simp at hkL
        obtain ⟨cs, hl7, hcell, hki⟩ := HEL.out k hkL
        obtain ⟨cs', hl7', hcell', hin⟩ := hc k hkL
        obtain ⟨q0, q1, q2, q3, q4, q5, q6, rfl⟩ := list7 hl7
        obtain ⟨p0, p1, p2, p3, p4, p5, p6, rfl⟩ := list7 hl7'
        have HSZ : Hid (tsz I[k] ≤ 1353245080330) := Nat.le_trans (tszs_get I k hkL) HS.out
        have HCALL : Hid (∀ n : Ext wr, Calls Tryz.prog 13 #[.agg #[q0, q1, q2, q3, q4, q5, q6], .agg #[p0, p1, p2, p3, p4, p5, p6]] n.W fun e w' => e = .returned (.bool true) ∧ Upd [] n.W w') := fun n =>
          IH.out n.W [q0, q1, q2, q3, q4, q5, q6] [p0, p1, p2, p3, p4, p5, p6] I[k] P (KIn.keep (hU.trans n.h) (fun x _ => by simp) (fun x hx => hx) _ _ _ hki) (In.mono (hU.trans n.h) _ _ _ hin) HSZ.out
        have mc : ∀ (n : Ext wr) j, j < 7 → n.W.cell? ⟨g, k * 7 + j, none⟩ = [q0, q1, q2, q3, q4, q5, q6][j]? := fun n j hj => ((hU.trans n.h).cell (p := ⟨g, k * 7 + j, none⟩) hglt (by simp)).trans (hcell j hj)
        have mc' : ∀ (n : Ext wr) j, j < 7 → n.W.cell? ⟨b, o + (k * 7 + j), none⟩ = [p0, p1, p2, p3, p4, p5, p6][j]? := fun n j hj => ((hU.trans n.h).cell (p := ⟨b, o + (k * 7 + j), none⟩) hltb (by simp)).trans (hcell' j hj)
        have xq0 : ∀ n : Ext wr, n.W.cell? ⟨g, k * 7, none⟩ = some q0 := fun n => mc n 0 (by omega)
        have xp0 : ∀ n : Ext wr, n.W.cell? ⟨b, o + k * 7, none⟩ = some p0 := fun n => mc' n 0 (by omega)
        have xq1 : ∀ n : Ext wr, n.W.cell? ⟨g, k * 7 + 1, none⟩ = some q1 := fun n => mc n 1 (by omega)
        have xp1 : ∀ n : Ext wr, n.W.cell? ⟨b, o + k * 7 + 1, none⟩ = some p1 := fun n => mc' n 1 (by omega)
        have xq2 : ∀ n : Ext wr, n.W.cell? ⟨g, k * 7 + 2, none⟩ = some q2 := fun n => mc n 2 (by omega)
        have xp2 : ∀ n : Ext wr, n.W.cell? ⟨b, o + k * 7 + 2, none⟩ = some p2 := fun n => mc' n 2 (by omega)
        have xq3 : ∀ n : Ext wr, n.W.cell? ⟨g, k * 7 + 3, none⟩ = some q3 := fun n => mc n 3 (by omega)
        have xp3 : ∀ n : Ext wr, n.W.cell? ⟨b, o + k * 7 + 3, none⟩ = some p3 := fun n => mc' n 3 (by omega)
        have xq4 : ∀ n : Ext wr, n.W.cell? ⟨g, k * 7 + 4, none⟩ = some q4 := fun n => mc n 4 (by omega)
        have xp4 : ∀ n : Ext wr, n.W.cell? ⟨b, o + k * 7 + 4, none⟩ = some p4 := fun n => mc' n 4 (by omega)
        have xq5 : ∀ n : Ext wr, n.W.cell? ⟨g, k * 7 + 5, none⟩ = some q5 := fun n => mc n 5 (by omega)
        have xp5 : ∀ n : Ext wr, n.W.cell? ⟨b, o + k * 7 + 5, none⟩ = some p5 := fun n => mc' n 5 (by omega)
        have xq6 : ∀ n : Ext wr, n.W.cell? ⟨g, k * 7 + 6, none⟩ = some q6 := fun n => mc n 6 (by omega)
        have xp6 : ∀ n : Ext wr, n.W.cell? ⟨b, o + k * 7 + 6, none⟩ = some p6 := fun n => mc' n 6 (by omega)
        have d1 : decide ((k : Int) < (I.length : Int)) = true := by simp; omega
        have d2 : decide (k < I.length) = true := by simp; omega
        have d3 : decide (I.length ≤ k) = false := by simp; omega
        have d4 : decide ((k : Int) ≥ (I.length : Int)) = false := by simp; omega
        have d5 : decide ((I.length : Int) ≤ (k : Int)) = false := by simp; omega
        have i1 : (k : Int) < (I.length : Int) := by omega
        clear hc hki hin hcell hcell' hl7 hl7' mc mc'
        go_wp2_with fail
        have hne : Nonempty (Ext wr) := ⟨⟨wr, Upd.refl [] wr⟩⟩
        refine wp_region_ext (by kernel_rfl) (by kernel_rfl) ?_
        repeat (go_big_quiet_step ((go_at_call 13; exact Ext.call (HCALL.out _))))
        refine wpQuiet_nil ?_
        intro _ hw'
        obtain ⟨nx, hw''⟩ := hw'
        subst hw''
        go_wp2
        go_roundw
        case rel => exact ⟨k + 1, by omega, by go_num, hU.trans nx.h⟩
        case measure => simp [intOf]; omega
      · obtain ⟨j, hkj⟩ : ∃ j, k = I.length + j := ⟨k - I.length, by omega⟩
        have hj : j < 12 := by omega
        have mk : (k : Int) - (I.length : Int) = (j : Int) := by omega
        have mc : ∀ (n : Ext wr) i, i < 7 → n.W.cell? ⟨g, k * 7 + i, none⟩ = (markCells j)[i]? := fun n i hi => by
          rw [hkj]
          exact ((hU.trans n.h).cell (p := ⟨g, (I.length + j) * 7 + i, none⟩) hglt (by simp)).trans (HMK.out j hj i hi)
        have xq0 : ∀ n : Ext wr, n.W.cell? ⟨g, k * 7, none⟩ = some (.int .u8 0) := fun n => mc n 0 (by omega)
        have xq1 : ∀ n : Ext wr, n.W.cell? ⟨g, k * 7 + 1, none⟩ = some (.bool false) := fun n => mc n 1 (by omega)
        have xq2 : ∀ n : Ext wr, n.W.cell? ⟨g, k * 7 + 2, none⟩ = some (.slice none 0 0) := fun n => mc n 2 (by omega)
        have xq3 : ∀ n : Ext wr, n.W.cell? ⟨g, k * 7 + 3, none⟩ = some (.string ⟨#[]⟩) := fun n => mc n 3 (by omega)
        have xq4 : ∀ n : Ext wr, n.W.cell? ⟨g, k * 7 + 4, none⟩ = some (.int .i64 ((8000024 + j : Nat) : Int)) := fun n => mc n 4 (by omega)
        have xq5 : ∀ n : Ext wr, n.W.cell? ⟨g, k * 7 + 5, none⟩ = some (.slice none 0 0) := fun n => mc n 5 (by omega)
        have xq6 : ∀ n : Ext wr, n.W.cell? ⟨g, k * 7 + 6, none⟩ = some (.slice none 0 0) := fun n => mc n 6 (by omega)
        have d1 : decide ((k : Int) < (I.length : Int)) = false := by simp; omega
        have d2 : decide (k < I.length) = false := by simp; omega
        have d3 : decide (I.length ≤ k) = true := by simp; omega
        have d4 : decide ((k : Int) ≥ (I.length : Int)) = true := by simp; omega
        have d5 : decide ((I.length : Int) ≤ (k : Int)) = true := by simp; omega
        have HKJ : Hid (k = I.length + j) := hkj
        clear mc hkj
        go_wp2_with fail
        have hne : Nonempty (Ext wr) := ⟨⟨wr, Upd.refl [] wr⟩⟩
        refine wp_region_ext (by kernel_rfl) (by kernel_rfl) ?_
        repeat (go_big_quiet_step (first | (go_at_call 70; exact Ext.call (markTerm_any j _ hj)) | (go_at_call 18; exact Ext.call (SameTerm_in 1 _ (markCells j) (markCells j) (markTm j) (markIn _ j) (markIn _ j) (markSz j)))))
        refine wpQuiet_nil ?_
        intro _ hw'
        obtain ⟨nx, hw''⟩ := hw'
        subst hw''
        go_wp2
        go_roundw
        case rel => exact ⟨k + 1, by omega, by go_num, hU.trans nx.h⟩
        case measure => simp [intOf]; omega
    · have hkk : k = I.length + 12 := by omega
      have dd : decide ((k : Int) < (I.length : Int) + 12) = false := by simp; omega
      go_wp2
      go_ret
      exact ⟨rfl, hU⟩

end Go.Proofs.YtabknipgbmdipaaGreatDoor
