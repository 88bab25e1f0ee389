/- KeptTerms and KeptTerm of the kit, by their contracts. -/
import Derived.Test.YtaoipmmeialpnaaGreatDoorTreeV
import Derived.Test.YtaoipmmeialpnaaGreatDoorJAG
namespace Go.Proofs.YtaoipmmeialpnaaGreatDoor
open Go.RowKit

/-- What KeptTerm is to answer, of depth d. -/
def KeptSaid (d : Nat) : Prop := ∀ (w : World) (cs cs' : List Value) (t : Tm) (P : Nat → Prop), KIn P w d cs t → In w d cs' t → tsz t ≤ 1353245080330 → Calls Tryz.prog 14 #[.agg cs.toArray, .agg cs'.toArray] w fun e w' => e = .returned (.bool true) ∧ Upd [] w w'

def markTm (j : Nat) : Tm := .mk 0 ((8000024 + j : Nat) : Int) false [] ⟨#[]⟩ [] []
theorem markIn (w : World) (j : Nat) : In w 1 (markCells j) (markTm j) := ⟨none, none, none, 0, 0, 0, rfl, Or.inl rfl, Dig.nil, Or.inl rfl, Or.inl rfl⟩
theorem markSz (j : Nat) : tsz (markTm j) ≤ 1353245080330 := by simp [markTm, tsz, tszs]

set_option maxHeartbeats 4000000 in
set_option maxRecDepth 100000 in
theorem KeptTerms_in (d : Nat) (ih : KeptSaid d) (w : World) (P : Nat → Prop) (g cap : Nat) (a : Option Addr) (c : Nat) (I : List Tm) (hR : RowK P (KIn P w d) w g cap I) (h : RowAt (In w d) w a I) (hs : tszs I ≤ 1353245080330) :
    Calls Tryz.prog 55 #[.slice (some ⟨g, 0, none⟩) I.length cap, .slice a I.length c] w fun e w' => e = .returned (.bool true) ∧ Upd [] w w' := by
  have hIl := tszs_len I
  have hlen : I.length ≤ 1353245080330 := by omega
  have HS : Hid (tszs I ≤ 1353245080330) := hs
  have HA : Hid (RowAt (In w d) w a I) := h
  have IH : Hid (KeptSaid d) := ih
  obtain ⟨_, hglt, hcap, hcap2, hel, hmk⟩ := hR
  have HEL : Hid (∀ i (hi : i < I.length), ∃ cs : List Value, cs.length = 7 ∧ (∀ j, j < 7 → w.cell? ⟨g, i * 7 + j, none⟩ = cs[j]?) ∧ KIn P w d cs I[i]) := hel
  have HMK : Hid (∀ i, i < 12 → ∀ j, j < 7 → w.cell? ⟨g, (I.length + i) * 7 + j, none⟩ = (markCells i)[j]?) := hmk
  clear hIl hs h ih hel hmk
  go_enter Tryz.func55, Tryz.ntmps55
  go_wp2
  go_loopw [6] (fun i wr => ∃ k : Nat, k ≤ I.length + 12 ∧ i = .int .i64 k ∧ Upd [] w wr) (fun i _ => I.length + 12 - (intOf i).toNat)
  case atStart => exact ⟨0, Nat.zero_le _, rfl, Upd.refl _ _⟩
  case round =>
    obtain ⟨k, hk, rfl, hU⟩ := hrel
    have hgr : g < wr.heap.size := Nat.lt_of_lt_of_le hglt hU.size
    by_cases hk2 : k < I.length + 12
    · have i2 : (k : Int) < ((I.length + 12 : Nat) : Int) := by omega
      have i3 : (k : Int) < (I.length : Int) + 12 := by omega
      by_cases hkL : k < I.length
      · rcases HA.out with h0 | ⟨b, o, rfl, hltb, hc⟩
        · rw [h0] at hkL; simp at hkL
        obtain ⟨cs, hl7, hcell, hki⟩ := HEL.out k hkL
        obtain ⟨cs', hl7', hcell', hin⟩ := hc k hkL
        obtain ⟨q0, q1, q2, q3, q4, q5, q6, rfl⟩ := list7 hl7
        obtain ⟨p0, p1, p2, p3, p4, p5, p6, rfl⟩ := list7 hl7'
        have HSZ : Hid (tsz I[k] ≤ 1353245080330) := Nat.le_trans (tszs_get I k hkL) HS.out
        have HCALL : Hid (∀ n : Ext wr, Calls Tryz.prog 14 #[.agg #[q0, q1, q2, q3, q4, q5, q6], .agg #[p0, p1, p2, p3, p4, p5, p6]] n.W fun e w' => e = .returned (.bool true) ∧ Upd [] n.W w') := fun n =>
          IH.out n.W [q0, q1, q2, q3, q4, q5, q6] [p0, p1, p2, p3, p4, p5, p6] I[k] P (KIn.keep (hU.trans n.h) (fun x _ => by simp) (fun x hx => hx) _ _ _ hki) (In.mono (hU.trans n.h) _ _ _ hin) HSZ.out
        have mc : ∀ (n : Ext wr) j, j < 7 → n.W.cell? ⟨g, k * 7 + j, none⟩ = [q0, q1, q2, q3, q4, q5, q6][j]? := fun n j hj => ((hU.trans n.h).cell (p := ⟨g, k * 7 + j, none⟩) hglt (by simp)).trans (hcell j hj)
        have mc' : ∀ (n : Ext wr) j, j < 7 → n.W.cell? ⟨b, o + (k * 7 + j), none⟩ = [p0, p1, p2, p3, p4, p5, p6][j]? := fun n j hj => ((hU.trans n.h).cell (p := ⟨b, o + (k * 7 + j), none⟩) hltb (by simp)).trans (hcell' j hj)
        have xq0 : ∀ n : Ext wr, n.W.cell? ⟨g, k * 7, none⟩ = some q0 := fun n => mc n 0 (by omega)
        have xp0 : ∀ n : Ext wr, n.W.cell? ⟨b, o + k * 7, none⟩ = some p0 := fun n => mc' n 0 (by omega)
        have xq1 : ∀ n : Ext wr, n.W.cell? ⟨g, k * 7 + 1, none⟩ = some q1 := fun n => mc n 1 (by omega)
        have xp1 : ∀ n : Ext wr, n.W.cell? ⟨b, o + k * 7 + 1, none⟩ = some p1 := fun n => mc' n 1 (by omega)
        have xq2 : ∀ n : Ext wr, n.W.cell? ⟨g, k * 7 + 2, none⟩ = some q2 := fun n => mc n 2 (by omega)
        have xp2 : ∀ n : Ext wr, n.W.cell? ⟨b, o + k * 7 + 2, none⟩ = some p2 := fun n => mc' n 2 (by omega)
        have xq3 : ∀ n : Ext wr, n.W.cell? ⟨g, k * 7 + 3, none⟩ = some q3 := fun n => mc n 3 (by omega)
        have xp3 : ∀ n : Ext wr, n.W.cell? ⟨b, o + k * 7 + 3, none⟩ = some p3 := fun n => mc' n 3 (by omega)
        have xq4 : ∀ n : Ext wr, n.W.cell? ⟨g, k * 7 + 4, none⟩ = some q4 := fun n => mc n 4 (by omega)
        have xp4 : ∀ n : Ext wr, n.W.cell? ⟨b, o + k * 7 + 4, none⟩ = some p4 := fun n => mc' n 4 (by omega)
        have xq5 : ∀ n : Ext wr, n.W.cell? ⟨g, k * 7 + 5, none⟩ = some q5 := fun n => mc n 5 (by omega)
        have xp5 : ∀ n : Ext wr, n.W.cell? ⟨b, o + k * 7 + 5, none⟩ = some p5 := fun n => mc' n 5 (by omega)
        have xq6 : ∀ n : Ext wr, n.W.cell? ⟨g, k * 7 + 6, none⟩ = some q6 := fun n => mc n 6 (by omega)
        have xp6 : ∀ n : Ext wr, n.W.cell? ⟨b, o + k * 7 + 6, none⟩ = some p6 := fun n => mc' n 6 (by omega)
        have d1 : decide ((k : Int) < (I.length : Int)) = true := by simp; omega
        have d2 : decide (k < I.length) = true := by simp; omega
        have d3 : decide (I.length ≤ k) = false := by simp; omega
        have d4 : decide ((k : Int) ≥ (I.length : Int)) = false := by simp; omega
        have d5 : decide ((I.length : Int) ≤ (k : Int)) = false := by simp; omega
        have i1 : (k : Int) < (I.length : Int) := by omega
        clear hc hki hin hcell hcell' hl7 hl7' mc mc'
        go_wp2_with fail
        have hne : Nonempty (Ext wr) := ⟨⟨wr, Upd.refl [] wr⟩⟩
        refine wp_region_ext (by kernel_rfl) (by kernel_rfl) ?_
        repeat (go_big_quiet_step ((go_at_call 14; exact Ext.call (HCALL.out _))))
        refine wpQuiet_nil ?_
        intro _ hw'
        obtain ⟨nx, hw''⟩ := hw'
        subst hw''
        go_wp2
        go_roundw
        case rel => exact ⟨k + 1, by omega, by go_num, hU.trans nx.h⟩
        case measure => simp [intOf]; omega
      · obtain ⟨j, hkj⟩ : ∃ j, k = I.length + j := ⟨k - I.length, by omega⟩
        have hj : j < 12 := by omega
        have mk : (k : Int) - (I.length : Int) = (j : Int) := by omega
        have mc : ∀ (n : Ext wr) i, i < 7 → n.W.cell? ⟨g, k * 7 + i, none⟩ = (markCells j)[i]? := fun n i hi => by
          rw [hkj]
          exact ((hU.trans n.h).cell (p := ⟨g, (I.length + j) * 7 + i, none⟩) hglt (by simp)).trans (HMK.out j hj i hi)
        have xq0 : ∀ n : Ext wr, n.W.cell? ⟨g, k * 7, none⟩ = some (.int .u8 0) := fun n => mc n 0 (by omega)
        have xq1 : ∀ n : Ext wr, n.W.cell? ⟨g, k * 7 + 1, none⟩ = some (.bool false) := fun n => mc n 1 (by omega)
        have xq2 : ∀ n : Ext wr, n.W.cell? ⟨g, k * 7 + 2, none⟩ = some (.slice none 0 0) := fun n => mc n 2 (by omega)
        have xq3 : ∀ n : Ext wr, n.W.cell? ⟨g, k * 7 + 3, none⟩ = some (.string ⟨#[]⟩) := fun n => mc n 3 (by omega)
        have xq4 : ∀ n : Ext wr, n.W.cell? ⟨g, k * 7 + 4, none⟩ = some (.int .i64 ((8000024 + j : Nat) : Int)) := fun n => mc n 4 (by omega)
        have xq5 : ∀ n : Ext wr, n.W.cell? ⟨g, k * 7 + 5, none⟩ = some (.slice none 0 0) := fun n => mc n 5 (by omega)
        have xq6 : ∀ n : Ext wr, n.W.cell? ⟨g, k * 7 + 6, none⟩ = some (.slice none 0 0) := fun n => mc n 6 (by omega)
        have d1 : decide ((k : Int) < (I.length : Int)) = false := by simp; omega
        have d2 : decide (k < I.length) = false := by simp; omega
        have d3 : decide (I.length ≤ k) = true := by simp; omega
        have d4 : decide ((k : Int) ≥ (I.length : Int)) = true := by simp; omega
        have d5 : decide ((I.length : Int) ≤ (k : Int)) = true := by simp; omega
        have HKJ : Hid (k = I.length + j) := hkj
        clear mc hkj
        go_wp2_with fail
        have hne : Nonempty (Ext wr) := ⟨⟨wr, Upd.refl [] wr⟩⟩
        refine wp_region_ext (by kernel_rfl) (by kernel_rfl) ?_
        repeat (go_big_quiet_step (first | (go_at_call 74; exact Ext.call (markTerm_any j _ hj)) | (go_at_call 19; exact Ext.call (SameTerm_in 1 _ (markCells j) (markCells j) (markTm j) (markIn _ j) (markIn _ j) (markSz j)))))
        refine wpQuiet_nil ?_
        intro _ hw'
        obtain ⟨nx, hw''⟩ := hw'
        subst hw''
        go_wp2
        go_roundw
        case rel => exact ⟨k + 1, by omega, by go_num, hU.trans nx.h⟩
        case measure => simp [intOf]; omega
    · have hkk : k = I.length + 12 := by omega
      have dd : decide ((k : Int) < (I.length : Int) + 12) = false := by simp; omega
      go_wp2
      go_ret
      exact ⟨rfl, hU⟩

end Go.Proofs.YtaoipmmeialpnaaGreatDoor
