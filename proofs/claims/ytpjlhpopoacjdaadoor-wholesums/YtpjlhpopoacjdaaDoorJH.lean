/- KeptLimbs of the kit, by its contract. -/
import Derived.Test.YtpjlhpopoacjdaaDoorJG
import Derived.Deep.QuietTactic
import Derived.BigQuiet
import Derived.Test.YtpjlhpopoacjdaaDoorBase
import Derived.Test.YtpjlhpopoacjdaaDoorJI

namespace Go.Proofs.YtpjlhpopoacjdaaDoor
open Go.RowKit

theorem marks_get (i : Nat) (hi : i < 12) : marks.getD i 0 = 8000024 + i := by
  match i, hi with
  | 0, _ => rfl
  | 1, _ => rfl
  | 2, _ => rfl
  | 3, _ => rfl
  | 4, _ => rfl
  | 5, _ => rfl
  | 6, _ => rfl
  | 7, _ => rfl
  | 8, _ => rfl
  | 9, _ => rfl
  | 10, _ => rfl
  | 11, _ => rfl
  | n + 12, h => omega

set_option maxHeartbeats 4000000 in
set_option maxRecDepth 100000 in
theorem KeptLimbs_any (g cap : Nat) (a : Option Addr) (c : Nat) (L : List Nat) (w : World) (hL : L.length ≤ 35184372088700) (hc : L.length + 12 ≤ cap) (hc2 : cap ≤ 9223372036854775807) (HG : At w (some ⟨g, 0, none⟩) (L ++ marks)) (HL : At w a L) (hD : Dig L) :
    Calls Tryd.prog 49 #[.slice (some ⟨g, 0, none⟩) L.length cap, .slice a L.length c] w fun e w' => e = .returned (.bool true) ∧ Upd [] w w' := by
  have HML : Hid ((L ++ marks).length = L.length + 12) := by show (L ++ marks).length = L.length + 12; rw [List.length_append]; rfl
  go_enter Tryd.func49, Tryd.ntmps49
  go_wp2
  go_loopw [6] (fun i wr => ∃ k : Nat, k ≤ L.length + 12 ∧ i = .int .i64 k ∧ Upd [] w wr) (fun i _ => L.length + 12 - (intOf i).toNat)
  case atStart => exact ⟨0, Nat.zero_le _, rfl, Upd.refl _ _⟩
  case round =>
    obtain ⟨k, hk, rfl, hU⟩ := hrel
    by_cases hk2 : k < L.length + 12
    · rcases HG.mono hU with h | ⟨b, o, e, hlt, hcg⟩
      · have := HML.out; rw [h] at this; simp at this
      cases e
      have hx := hcg k (by rw [HML.out]; exact hk2)
      rw [Nat.zero_add] at hx
      by_cases hkL : k < L.length
      · rcases HL.mono hU with h | ⟨b2, o2, rfl, hlt2, hcl⟩
        · rw [h] at hkL; simp at hkL
        have hy := hcl k hkL
        have e : (L ++ marks).getD k 0 = L.getD k 0 := by rw [List.getD_eq_getElem?_getD, List.getD_eq_getElem?_getD, List.getElem?_append_left hkL]
        rw [e] at hx
        obtain ⟨x, hxx⟩ : ∃ x, x = L.getD k 0 := ⟨_, rfl⟩
        have hxl : x < 4294967296 := by rw [hxx]; exact hD.getD _
        rw [← hxx] at hx hy
        have d1 : decide ((k : Int) < (L.length : Int)) = true := by simp; omega
        have d2 : decide ((k : Int) ≥ (L.length : Int)) = false := by simp; omega
        clear hcg hcl e hxx
        have d3 : decide (L.length ≤ k) = false := by simp; omega
        have i1 : (k : Int) < (L.length : Int) := by omega
        have i2 : (k : Int) < ((L.length + 12 : Nat) : Int) := by omega
        have i3 : (k : Int) < (L.length : Int) + 12 := by omega
        go_wp2
        go_quiet (fail)
        go_wp2
        go_roundw
        case rel => exact ⟨k + 1, by omega, by go_num, hU.drewN _⟩
        case measure => simp [intOf]; omega
      · obtain ⟨j, hkj⟩ : ∃ j, k = L.length + j := ⟨k - L.length, by omega⟩
        have hj : j < 12 := by omega
        have e : (L ++ marks).getD k 0 = 8000024 + j := by
          rw [hkj, List.getD_eq_getElem?_getD, List.getElem?_append_right (by omega), Nat.add_sub_cancel_left, ← List.getD_eq_getElem?_getD]
          exact marks_get j hj
        rw [e] at hx
        have mk : (k : Int) - (L.length : Int) = (j : Int) := by omega
        have d1 : decide ((k : Int) < (L.length : Int)) = false := by simp; omega
        have d2 : decide (k < L.length) = false := by simp; omega
        have d3 : decide (L.length ≤ k) = true := by simp; omega
        have i2 : (k : Int) < ((L.length + 12 : Nat) : Int) := by omega
        have i3 : (k : Int) < (L.length : Int) + 12 := by omega
        have HKJ : Hid (k = L.length + j) := hkj
        clear hcg e hkj
        go_wp2
        go_quiet (first | (go_at_call 64; refine Calls.quiet_of_same (mark_any j _ hj)))
        go_wp2
        go_roundw
        case rel => exact ⟨k + 1, by omega, by go_num, hU.drewN _⟩
        case measure => simp [intOf]; omega
    · have hkk : k = L.length + 12 := by omega
      have dd : decide ((k : Int) < (L.length : Int) + 12) = false := by simp; omega
      go_wp2
      go_ret
      exact ⟨rfl, hU⟩

end Go.Proofs.YtpjlhpopoacjdaaDoor

/- A region that draws its order, whose own operations only read, and whose callees may make memory: walked once, in the order of the text. -/
namespace Go.Proofs.YtpjlhpopoacjdaaDoor
open Go.RowKit

/-- A world in which nothing of an elder one has turned. -/
structure Ext (w : World) where
  W : World
  h : Upd [] w W

theorem Ext.call {f : FuncId} {args : Array Value} {w : World} {v : Value} {n : Ext w} (h : Calls Tryd.prog f args n.W fun e w' => e = .returned v ∧ Upd [] n.W w') :
    Calls Tryd.prog f args n.W fun e w'' => e = .returned v ∧ ∃ m : Ext w, w'' = m.W :=
  h.mono fun _ w'' ⟨he, hu⟩ => ⟨he, ⟨w'', n.h.trans hu⟩, rfl⟩
theorem Ext.cell {w : World} (n : Ext w) {p : Addr} {v : Value} (h : w.cell? p = some v) : n.W.cell? p = some v :=
  (n.h.cell (World.block_lt_of_cell? _ _ h) (by simp)).trans h

theorem wp_region_ext {id : Nat} {Q : Exit → Act → World → Prop} {a : Act} {w : World} {l : List Oper} (hm : Tryd.prog.follows .mixedOrders = true) (hB : Region.lexB .any l.toArray = true)
    (h : wpQuiet Tryd.prog l.toArray (fun w' => ∃ n : Ext w, w' = n.W) (fun a' => ∀ w', (∃ n : Ext w, w' = n.W) → Q .normal a' w') l a) : (Code.region id l.toArray true).wp Tryd.prog Q a w :=
  wp_region_quiet (C := fun w' => ∃ n : Ext w, w' = n.W) hm hB ⟨⟨w.drew, (Upd.refl [] w).drew⟩, rfl⟩ (by simpa using h)

end Go.Proofs.YtpjlhpopoacjdaaDoor

/- KeptTerms and KeptTerm of the kit, by their contracts. -/
namespace Go.Proofs.YtpjlhpopoacjdaaDoor
open Go.RowKit

/-- What KeptTerm is to answer, of depth d. -/
def KeptSaid (d : Nat) : Prop := ∀ (w : World) (cs cs' : List Value) (t : Tm) (P : Nat → Prop), KIn P w d cs t → In w d cs' t → tsz t ≤ 1353245080330 → Calls Tryd.prog 23 #[.agg cs.toArray, .agg cs'.toArray] w fun e w' => e = .returned (.bool true) ∧ Upd [] w w'

def markTm (j : Nat) : Tm := .mk 0 ((8000024 + j : Nat) : Int) false [] ⟨#[]⟩ [] []
theorem markIn (w : World) (j : Nat) : In w 1 (markCells j) (markTm j) := ⟨none, none, none, 0, 0, 0, rfl, Or.inl rfl, Dig.nil, Or.inl rfl, Or.inl rfl⟩
theorem markSz (j : Nat) : tsz (markTm j) ≤ 1353245080330 := by simp [markTm, tsz, tszs]

set_option maxHeartbeats 4000000 in
set_option maxRecDepth 100000 in
theorem KeptTerms_in (d : Nat) (ih : KeptSaid d) (w : World) (P : Nat → Prop) (g cap : Nat) (a : Option Addr) (c : Nat) (I : List Tm) (hR : RowK P (KIn P w d) w g cap I) (h : RowAt (In w d) w a I) (hs : tszs I ≤ 1353245080330) :
    Calls Tryd.prog 50 #[.slice (some ⟨g, 0, none⟩) I.length cap, .slice a I.length c] w fun e w' => e = .returned (.bool true) ∧ Upd [] w w' := by
  have hIl := tszs_len I
  have hlen : I.length ≤ 1353245080330 := by omega
  have HS : Hid (tszs I ≤ 1353245080330) := hs
  have HA : Hid (RowAt (In w d) w a I) := h
  have IH : Hid (KeptSaid d) := ih
  obtain ⟨_, hglt, hcap, hcap2, hel, hmk⟩ := hR
  have HEL : Hid (∀ i (hi : i < I.length), ∃ cs : List Value, cs.length = 7 ∧ (∀ j, j < 7 → w.cell? ⟨g, i * 7 + j, none⟩ = cs[j]?) ∧ KIn P w d cs I[i]) := hel
  have HMK : Hid (∀ i, i < 12 → ∀ j, j < 7 → w.cell? ⟨g, (I.length + i) * 7 + j, none⟩ = (markCells i)[j]?) := hmk
  clear hIl hs h ih hel hmk
  go_enter Tryd.func50, Tryd.ntmps50
  go_wp2
  go_loopw [6] (fun i wr => ∃ k : Nat, k ≤ I.length + 12 ∧ i = .int .i64 k ∧ Upd [] w wr) (fun i _ => I.length + 12 - (intOf i).toNat)
  case atStart => exact ⟨0, Nat.zero_le _, rfl, Upd.refl _ _⟩
  case round =>
    obtain ⟨k, hk, rfl, hU⟩ := hrel
    have hgr : g < wr.heap.size := Nat.lt_of_lt_of_le hglt hU.size
    by_cases hk2 : k < I.length + 12
    · have i2 : (k : Int) < ((I.length + 12 : Nat) : Int) := by omega
      have i3 : (k : Int) < (I.length : Int) + 12 := by omega
      by_cases hkL : k < I.length
      · rcases HA.out with h0 | ⟨b, o, rfl, hltb, hc⟩
        · rw [h0] at hkL; simp at hkL
        obtain ⟨cs, hl7, hcell, hki⟩ := HEL.out k hkL
        obtain ⟨cs', hl7', hcell', hin⟩ := hc k hkL
        obtain ⟨q0, q1, q2, q3, q4, q5, q6, rfl⟩ := list7 hl7
        obtain ⟨p0, p1, p2, p3, p4, p5, p6, rfl⟩ := list7 hl7'
        have HSZ : Hid (tsz I[k] ≤ 1353245080330) := Nat.le_trans (tszs_get I k hkL) HS.out
        have HCALL : Hid (∀ n : Ext wr, Calls Tryd.prog 23 #[.agg #[q0, q1, q2, q3, q4, q5, q6], .agg #[p0, p1, p2, p3, p4, p5, p6]] n.W fun e w' => e = .returned (.bool true) ∧ Upd [] n.W w') := fun n =>
          IH.out n.W [q0, q1, q2, q3, q4, q5, q6] [p0, p1, p2, p3, p4, p5, p6] I[k] P (KIn.keep (hU.trans n.h) (fun x _ => by simp) (fun x hx => hx) _ _ _ hki) (In.mono (hU.trans n.h) _ _ _ hin) HSZ.out
        have mc : ∀ (n : Ext wr) j, j < 7 → n.W.cell? ⟨g, k * 7 + j, none⟩ = [q0, q1, q2, q3, q4, q5, q6][j]? := fun n j hj => ((hU.trans n.h).cell (p := ⟨g, k * 7 + j, none⟩) hglt (by simp)).trans (hcell j hj)
        have mc' : ∀ (n : Ext wr) j, j < 7 → n.W.cell? ⟨b, o + (k * 7 + j), none⟩ = [p0, p1, p2, p3, p4, p5, p6][j]? := fun n j hj => ((hU.trans n.h).cell (p := ⟨b, o + (k * 7 + j), none⟩) hltb (by simp)).trans (hcell' j hj)
        have xq0 : ∀ n : Ext wr, n.W.cell? ⟨g, k * 7, none⟩ = some q0 := fun n => mc n 0 (by omega)
        have xp0 : ∀ n : Ext wr, n.W.cell? ⟨b, o + k * 7, none⟩ = some p0 := fun n => mc' n 0 (by omega)
        have xq1 : ∀ n : Ext wr, n.W.cell? ⟨g, k * 7 + 1, none⟩ = some q1 := fun n => mc n 1 (by omega)
        have xp1 : ∀ n : Ext wr, n.W.cell? ⟨b, o + k * 7 + 1, none⟩ = some p1 := fun n => mc' n 1 (by omega)
        have xq2 : ∀ n : Ext wr, n.W.cell? ⟨g, k * 7 + 2, none⟩ = some q2 := fun n => mc n 2 (by omega)
        have xp2 : ∀ n : Ext wr, n.W.cell? ⟨b, o + k * 7 + 2, none⟩ = some p2 := fun n => mc' n 2 (by omega)
        have xq3 : ∀ n : Ext wr, n.W.cell? ⟨g, k * 7 + 3, none⟩ = some q3 := fun n => mc n 3 (by omega)
        have xp3 : ∀ n : Ext wr, n.W.cell? ⟨b, o + k * 7 + 3, none⟩ = some p3 := fun n => mc' n 3 (by omega)
        have xq4 : ∀ n : Ext wr, n.W.cell? ⟨g, k * 7 + 4, none⟩ = some q4 := fun n => mc n 4 (by omega)
        have xp4 : ∀ n : Ext wr, n.W.cell? ⟨b, o + k * 7 + 4, none⟩ = some p4 := fun n => mc' n 4 (by omega)
        have xq5 : ∀ n : Ext wr, n.W.cell? ⟨g, k * 7 + 5, none⟩ = some q5 := fun n => mc n 5 (by omega)
        have xp5 : ∀ n : Ext wr, n.W.cell? ⟨b, o + k * 7 + 5, none⟩ = some p5 := fun n => mc' n 5 (by omega)
        have xq6 : ∀ n : Ext wr, n.W.cell? ⟨g, k * 7 + 6, none⟩ = some q6 := fun n => mc n 6 (by omega)
        have xp6 : ∀ n : Ext wr, n.W.cell? ⟨b, o + k * 7 + 6, none⟩ = some p6 := fun n => mc' n 6 (by omega)
        have d1 : decide ((k : Int) < (I.length : Int)) = true := by simp; omega
        have d2 : decide (k < I.length) = true := by simp; omega
        have d3 : decide (I.length ≤ k) = false := by simp; omega
        have d4 : decide ((k : Int) ≥ (I.length : Int)) = false := by simp; omega
        have d5 : decide ((I.length : Int) ≤ (k : Int)) = false := by simp; omega
        have i1 : (k : Int) < (I.length : Int) := by omega
        clear hc hki hin hcell hcell' hl7 hl7' mc mc'
        go_wp2_with fail
        have hne : Nonempty (Ext wr) := ⟨⟨wr, Upd.refl [] wr⟩⟩
        refine wp_region_ext (by kernel_rfl) (by kernel_rfl) ?_
        repeat (go_big_quiet_step ((go_at_call 23; exact Ext.call (HCALL.out _))))
        refine wpQuiet_nil ?_
        intro _ hw'
        obtain ⟨nx, hw''⟩ := hw'
        subst hw''
        go_wp2
        go_roundw
        case rel => exact ⟨k + 1, by omega, by go_num, hU.trans nx.h⟩
        case measure => simp [intOf]; omega
      · obtain ⟨j, hkj⟩ : ∃ j, k = I.length + j := ⟨k - I.length, by omega⟩
        have hj : j < 12 := by omega
        have mk : (k : Int) - (I.length : Int) = (j : Int) := by omega
        have mc : ∀ (n : Ext wr) i, i < 7 → n.W.cell? ⟨g, k * 7 + i, none⟩ = (markCells j)[i]? := fun n i hi => by
          rw [hkj]
          exact ((hU.trans n.h).cell (p := ⟨g, (I.length + j) * 7 + i, none⟩) hglt (by simp)).trans (HMK.out j hj i hi)
        have xq0 : ∀ n : Ext wr, n.W.cell? ⟨g, k * 7, none⟩ = some (.int .u8 0) := fun n => mc n 0 (by omega)
        have xq1 : ∀ n : Ext wr, n.W.cell? ⟨g, k * 7 + 1, none⟩ = some (.bool false) := fun n => mc n 1 (by omega)
        have xq2 : ∀ n : Ext wr, n.W.cell? ⟨g, k * 7 + 2, none⟩ = some (.slice none 0 0) := fun n => mc n 2 (by omega)
        have xq3 : ∀ n : Ext wr, n.W.cell? ⟨g, k * 7 + 3, none⟩ = some (.string ⟨#[]⟩) := fun n => mc n 3 (by omega)
        have xq4 : ∀ n : Ext wr, n.W.cell? ⟨g, k * 7 + 4, none⟩ = some (.int .i64 ((8000024 + j : Nat) : Int)) := fun n => mc n 4 (by omega)
        have xq5 : ∀ n : Ext wr, n.W.cell? ⟨g, k * 7 + 5, none⟩ = some (.slice none 0 0) := fun n => mc n 5 (by omega)
        have xq6 : ∀ n : Ext wr, n.W.cell? ⟨g, k * 7 + 6, none⟩ = some (.slice none 0 0) := fun n => mc n 6 (by omega)
        have d1 : decide ((k : Int) < (I.length : Int)) = false := by simp; omega
        have d2 : decide (k < I.length) = false := by simp; omega
        have d3 : decide (I.length ≤ k) = true := by simp; omega
        have d4 : decide ((k : Int) ≥ (I.length : Int)) = true := by simp; omega
        have d5 : decide ((I.length : Int) ≤ (k : Int)) = true := by simp; omega
        have HKJ : Hid (k = I.length + j) := hkj
        clear mc hkj
        go_wp2_with fail
        have hne : Nonempty (Ext wr) := ⟨⟨wr, Upd.refl [] wr⟩⟩
        refine wp_region_ext (by kernel_rfl) (by kernel_rfl) ?_
        repeat (go_big_quiet_step (first | (go_at_call 65; exact Ext.call (markTerm_any j _ hj)) | (go_at_call 18; exact Ext.call (SameTerm_in 1 _ (markCells j) (markCells j) (markTm j) (markIn _ j) (markIn _ j) (markSz j)))))
        refine wpQuiet_nil ?_
        intro _ hw'
        obtain ⟨nx, hw''⟩ := hw'
        subst hw''
        go_wp2
        go_roundw
        case rel => exact ⟨k + 1, by omega, by go_num, hU.trans nx.h⟩
        case measure => simp [intOf]; omega
    · have hkk : k = I.length + 12 := by omega
      have dd : decide ((k : Int) < (I.length : Int) + 12) = false := by simp; omega
      go_wp2
      go_ret
      exact ⟨rfl, hU⟩

end Go.Proofs.YtpjlhpopoacjdaaDoor

/- KeptTerm of the kit, by its contract. -/
namespace Go.Proofs.YtpjlhpopoacjdaaDoor
open Go.RowKit

set_option maxHeartbeats 4000000 in
set_option maxRecDepth 100000 in
theorem KeptTerm_step (d : Nat) (ih : KeptSaid d) : KeptSaid (d + 1) := by
  intro w cs cs' t P h h' hs
  have hS := SameTerm_in (d + 1)
  have hplain := KIn.plain (P := P) (w := w) (d + 1) cs t h
  cases t with
  | mk k num neg L s I T =>
    have HSm : Hid (∀ W, Upd [] w W → Calls Tryd.prog 18 #[.agg cs.toArray, .agg cs'.toArray] W fun e w' => e = .returned (.bool true) ∧ Upd [] W w') := fun W hu => hS W cs cs' _ (In.mono hu _ _ _ hplain) (In.mono hu _ _ _ h') (Nat.le_trans hs (by omega))
    obtain ⟨g, gi, gt, c, ci, ct, rfl, hP, hA, hD, hc, hc2, hI, hT⟩ := h
    obtain ⟨b, bi, bt, cb, cbi, cbt, rfl, hA', hD', hI', hT'⟩ := h'
    simp only [tsz] at hs
    have HLm : Hid (∀ W, Upd [] w W → _) := fun W hu => KeptLimbs_any g c b cb L W (by omega) hc hc2 (hA.stay hu (by simp)) (hA'.mono hu) hD
    have keepK : ∀ W, Upd [] w W → ∀ cs t, KIn P w d cs t → KIn P W d cs t := fun W hu => KIn.keep hu (fun x _ => by simp) (fun x hx => hx) d
    have HIt : Hid (∀ W, Upd [] w W → _) := fun W hu => KeptTerms_in d ih W P gi ci bi cbi I (hI.keep hu (fun x _ => by simp) (fun x hx => hx) (keepK W hu)) (hI'.imp hu (In.mono hu d)) (by omega)
    have HTt : Hid (∀ W, Upd [] w W → _) := fun W hu => KeptTerms_in d ih W P gt ct bt cbt T (hT.keep hu (fun x _ => by simp) (fun x hx => hx) (keepK W hu)) (hT'.imp hu (In.mono hu d)) (by omega)
    clear hA hA' hD hD' hI hI' hT hT' hs ih hS hplain keepK
    go_enter Tryd.func23, Tryd.ntmps23
    have u0 := ((Upd.refl [] w).alloc (.cells #[.int .u8 k, .bool neg, .slice (some ⟨g, 0, none⟩) L.length c, .string s, .int .i64 num, .slice (some ⟨gi, 0, none⟩) I.length ci, .slice (some ⟨gt, 0, none⟩) T.length ct] 26)).alloc (.cells #[.int .u8 k, .bool neg, .slice b L.length cb, .string s, .int .i64 num, .slice bi I.length cbi, .slice bt T.length cbt] 26)
    have tx := (Tb.new w #[.int .u8 k, .bool neg, .slice (some ⟨g, 0, none⟩) L.length c, .string s, .int .i64 num, .slice (some ⟨gi, 0, none⟩) I.length ci, .slice (some ⟨gt, 0, none⟩) T.length ct] _ rfl).old (.cells #[.int .u8 k, .bool neg, .slice b L.length cb, .string s, .int .i64 num, .slice bi I.length cbi, .slice bt T.length cbt] 26)
    have ty := Tb.new (w.alloc (.cells #[.int .u8 k, .bool neg, .slice (some ⟨g, 0, none⟩) L.length c, .string s, .int .i64 num, .slice (some ⟨gi, 0, none⟩) I.length ci, .slice (some ⟨gt, 0, none⟩) T.length ct] 26)) #[.int .u8 k, .bool neg, .slice b L.length cb, .string s, .int .i64 num, .slice bi I.length cbi, .slice bt T.length cbt] (w.heap.size + 1) (by simp)
    go_wp2_with (first | (refine load_G _ _ rfl _ _ rfl tx rfl rfl ?_) | (refine load_G _ _ rfl _ _ rfl ty rfl rfl ?_))
    refine (HSm.out _ u0).mono ?_
    rintro e w1 ⟨rfl, hU1⟩
    have tx1 := tx.mono hU1 (by simp)
    have ty1 := ty.mono hU1 (by simp)
    have u1 := u0.trans hU1
    have x2 := tx1.cell 2
    have y2 := ty1.cell 2
    clear u0 tx ty hU1
    go_wp2_with fail
    refine (HLm.out _ u1).mono ?_
    rintro e w2 ⟨rfl, hU2⟩
    have tx2 := tx1.mono hU2 (by simp)
    have ty2 := ty1.mono hU2 (by simp)
    have u2 := u1.trans hU2
    have x5 := tx2.cell 5
    have y5 := ty2.cell 5
    clear tx1 ty1 hU2 x2 y2
    go_wp2_with fail
    refine (HIt.out _ u2).mono ?_
    rintro e w3 ⟨rfl, hU3⟩
    have tx3 := tx2.mono hU3 (by simp)
    have ty3 := ty2.mono hU3 (by simp)
    have u3 := u2.trans hU3
    have x6 := tx3.cell 6
    have y6 := ty3.cell 6
    clear tx2 ty2 hU3 x5 y5
    go_wp2_with fail
    refine (HTt.out _ u3).mono ?_
    rintro e w4 ⟨rfl, hU4⟩
    go_wp2
    go_ret
    exact ⟨rfl, u3.trans hU4⟩

/-- KeptTerm, of a term and what was lent of it: true. -/
theorem KeptTerm_in : ∀ d, KeptSaid d
  | 0 => fun _ _ _ _ _ h => h.elim
  | d + 1 => KeptTerm_step d (KeptTerm_in d)

end Go.Proofs.YtpjlhpopoacjdaaDoor

/- small of the statements: some word. -/
namespace Go.Proofs.YtpjlhpopoacjdaaDoor
open Go.RowKit

/-- A word is answered. -/
def IsWord (e : Ending) : Prop := ∃ t, e = .returned (.bool t)
theorem IsWord.mk (t : Bool) : IsWord (.returned (.bool t)) := ⟨t, rfl⟩

set_option maxHeartbeats 1000000 in
set_option maxRecDepth 100000 in
theorem small_any (k num k' num' : Int) (na nb : Bool) (A B : List Nat) (s s' : ByteArray) (a ai at' b bi bt : Option Addr) (ca ni ci nt ct cb mi cbi mt cbt : Nat) (w : World) :
    Calls Tryd.prog 10 #[.agg #[.int .u8 k, .bool na, .slice a A.length ca, .string s, .int .i64 num, .slice ai ni ci, .slice at' nt ct], .agg #[.int .u8 k', .bool nb, .slice b B.length cb, .string s', .int .i64 num', .slice bi mi cbi, .slice bt mt cbt]] w fun e w' => IsWord e ∧ Upd [] w w' := by
  obtain ⟨S1, h1⟩ : ∃ S, wrap64 ((A.length : Int) + (B.length : Int)) = S := ⟨_, rfl⟩
  obtain ⟨S2, h2⟩ : ∃ S, wrap64 ((ni : Int) + (mi : Int)) = S := ⟨_, rfl⟩
  obtain ⟨S3, h3⟩ : ∃ S, wrap64 (S2 + (nt : Int)) = S := ⟨_, rfl⟩
  obtain ⟨S4, h4⟩ : ∃ S, wrap64 (S3 + (mt : Int)) = S := ⟨_, rfl⟩
  go_enter Tryd.func10, Tryd.ntmps10
  go_wp2
  all_goals go_ret
  all_goals exact ⟨IsWord.mk _, by repeat (first | exact Upd.refl _ _ | refine Upd.alloc ?_ _)⟩

end Go.Proofs.YtpjlhpopoacjdaaDoor
