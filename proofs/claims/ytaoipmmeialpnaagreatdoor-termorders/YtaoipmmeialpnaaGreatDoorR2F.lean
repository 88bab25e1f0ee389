/- rows, lists and order of the reference of term, by their contracts. -/
import Derived.Test.YtaoipmmeialpnaaGreatDoorJAO
import Derived.Test.YtaoipmmeialpnaaGreatDoorRefC
namespace Go.Proofs.YtaoipmmeialpnaaGreatDoor
open Go.RowKit

/-- Item by item, as long as both have one. -/
def rwZ : List Tm → List Tm → Int
  | t :: r, u :: v => th (ordT t u) (rwZ r v)
  | _, _ => 0
theorem rwZ_nil (I : List Tm) : rwZ I [] = 0 := by cases I <;> rfl
theorem ordR_rw (I J : List Tm) : ordR I J = th (rwZ I J) (cmpZ I.length J.length) := by
  induction I generalizing J with
  | nil =>
    cases J with
    | nil => rfl
    | cons u v =>
      show (-1 : Int) = th 0 (cmpZ 0 ((v.length + 1 : Nat) : Int))
      rw [th_z, cmpZ_lt (by omega)]
  | cons t r ih =>
    cases J with
    | nil =>
      show (1 : Int) = th 0 (cmpZ ((r.length + 1 : Nat) : Int) 0)
      rw [th_z, cmpZ_gt (by omega)]
    | cons u v =>
      rw [ordR, rwZ, th_assoc, ih]
      congr 2
      unfold cmpZ
      simp only [List.length_cons]
      congr 1
      · exact propext ⟨fun h => by omega, fun h => by omega⟩
      · congr 1
        exact propext ⟨fun h => by omega, fun h => by omega⟩
theorem rwZ_drop (I J : List Tm) (k : Nat) (h0 : k < I.length) (h1 : k < J.length) : rwZ (I.drop k) (J.drop k) = th (ordT I[k] J[k]) (rwZ (I.drop (k + 1)) (J.drop (k + 1))) := by
  rw [List.drop_eq_getElem_cons h0, List.drop_eq_getElem_cons h1, rwZ]

def OrdS2 (d : Nat) : Prop := ∀ (w : World) (cs cs' : List Value) (t u : Tm), In w d cs t → In w d cs' u → okT' t = true → okT' u = true → tsz t ≤ 1353245080330 → tsz u ≤ 1353245080330 → Calls Tryz.prog 65 #[.agg cs.toArray, .agg cs'.toArray] w fun e w' => e = .returned (.int .i64 (ordT t u)) ∧ Upd [] w w'

set_option maxHeartbeats 4000000 in
set_option maxRecDepth 100000 in
theorem rows2_in (d : Nat) (ih : OrdS2 d) (w : World) (a a' : Option Addr) (c c' : Nat) (I J : List Tm) (h : RowAt (In w d) w a I) (h' : RowAt (In w d) w a' J) (ok : okR I = true) (ok' : okR J = true) (hz : tszs I ≤ 1353245080330) (hz' : tszs J ≤ 1353245080330) :
    Calls Tryz.prog 126 #[.slice a I.length c, .slice a' J.length c'] w fun e w' => e = .returned (.int .i64 (rwZ I J)) ∧ Upd [] w w' := by
  have hlI : I.length ≤ 1353245080330 := Nat.le_trans (tszs_len I) hz
  have hlJ : J.length ≤ 1353245080330 := Nat.le_trans (tszs_len J) hz'
  have HI : Hid (RowAt (In w d) w a I) := h
  have HJ : Hid (RowAt (In w d) w a' J) := h'
  have HZI : Hid (tszs I ≤ 1353245080330) := hz
  have HZJ : Hid (tszs J ≤ 1353245080330) := hz'
  have OI : Hid (okR I = true) := ok
  have OJ : Hid (okR J = true) := ok'
  have IH : Hid (∀ (w : World) (cs cs' : List Value) (t u : Tm), In w d cs t → In w d cs' u → okT' t = true → okT' u = true → tsz t ≤ 1353245080330 → tsz u ≤ 1353245080330 → Calls Tryz.prog 65 #[.agg cs.toArray, .agg cs'.toArray] w fun e w' => e = .returned (.int .i64 (ordT t u)) ∧ Upd [] w w') := ih
  clear h h' hz hz' ok ok' ih
  go_enter Tryz.func126, Tryz.ntmps126
  go_wp2
  go_loopw [5] (fun i wr => ∃ (k : Nat), k ≤ I.length ∧ k ≤ J.length ∧ i = .int .i64 k ∧ rwZ I J = rwZ (I.drop k) (J.drop k) ∧ Upd [] w wr) (fun i _ => I.length - (intOf i).toNat)
  case atStart => exact ⟨0, Nat.zero_le _, Nat.zero_le _, rfl, by simp, Upd.refl _ _⟩
  case round =>
    obtain ⟨k, hk, hk', rfl, heq, hU⟩ := hrel
    have HEQ : Hid (rwZ I J = rwZ (I.drop k) (J.drop k)) := heq
    clear heq
    by_cases hlt : k < I.length
    · have i1 : (k : Int) < (I.length : Int) := by omega
      by_cases hlt' : k < J.length
      · have j1 : (k : Int) < (J.length : Int) := by omega
        rcases HI.out with h0 | ⟨b, o, rfl, hb, hc⟩
        · rw [h0] at hlt; simp at hlt
        rcases HJ.out with h0 | ⟨b', o', rfl, hb', hc'⟩
        · rw [h0] at hlt'; simp at hlt'
        obtain ⟨cs, hl7, hcell, hin⟩ := hc k hlt
        obtain ⟨cs', hl7', hcell', hin'⟩ := hc' k hlt'
        obtain ⟨q0, q1, q2, q3, q4, q5, q6, rfl⟩ := list7 hl7
        obtain ⟨p0, p1, p2, p3, p4, p5, p6, rfl⟩ := list7 hl7'
        obtain ⟨z, hz⟩ : ∃ z, ordT I[k] J[k] = z := ⟨_, rfl⟩
        have HC : Hid (∀ n : Ext wr, Calls Tryz.prog 65 #[.agg #[q0, q1, q2, q3, q4, q5, q6], .agg #[p0, p1, p2, p3, p4, p5, p6]] n.W fun e w' => e = .returned (.int .i64 z) ∧ Upd [] n.W w') := fun n => by
          have hu := hU.trans n.h
          have := IH.out n.W _ _ I[k] J[k] (In.mono hu _ _ _ hin) (In.mono hu _ _ _ hin') (okR_get I k hlt OI.out) (okR_get J k hlt' OJ.out) (Nat.le_trans (tszs_get I k hlt) HZI.out) (Nat.le_trans (tszs_get J k hlt') HZJ.out)
          rw [hz] at this
          exact this
        have cq0 : ∀ n : Ext wr, n.W.cell? ⟨b, o + k * 7, none⟩ = some q0 := fun n => n.cell ((hU.cell (p := ⟨b, o + (k * 7 + 0), none⟩) hb (by simp)).trans (hcell 0 (by omega)))
        have cq1 : ∀ n : Ext wr, n.W.cell? ⟨b, o + k * 7 + 1, none⟩ = some q1 := fun n => n.cell ((hU.cell (p := ⟨b, o + (k * 7 + 1), none⟩) hb (by simp)).trans (hcell 1 (by omega)))
        have cq2 : ∀ n : Ext wr, n.W.cell? ⟨b, o + k * 7 + 2, none⟩ = some q2 := fun n => n.cell ((hU.cell (p := ⟨b, o + (k * 7 + 2), none⟩) hb (by simp)).trans (hcell 2 (by omega)))
        have cq3 : ∀ n : Ext wr, n.W.cell? ⟨b, o + k * 7 + 3, none⟩ = some q3 := fun n => n.cell ((hU.cell (p := ⟨b, o + (k * 7 + 3), none⟩) hb (by simp)).trans (hcell 3 (by omega)))
        have cq4 : ∀ n : Ext wr, n.W.cell? ⟨b, o + k * 7 + 4, none⟩ = some q4 := fun n => n.cell ((hU.cell (p := ⟨b, o + (k * 7 + 4), none⟩) hb (by simp)).trans (hcell 4 (by omega)))
        have cq5 : ∀ n : Ext wr, n.W.cell? ⟨b, o + k * 7 + 5, none⟩ = some q5 := fun n => n.cell ((hU.cell (p := ⟨b, o + (k * 7 + 5), none⟩) hb (by simp)).trans (hcell 5 (by omega)))
        have cq6 : ∀ n : Ext wr, n.W.cell? ⟨b, o + k * 7 + 6, none⟩ = some q6 := fun n => n.cell ((hU.cell (p := ⟨b, o + (k * 7 + 6), none⟩) hb (by simp)).trans (hcell 6 (by omega)))
        have cp0 : ∀ n : Ext wr, n.W.cell? ⟨b', o' + k * 7, none⟩ = some p0 := fun n => n.cell ((hU.cell (p := ⟨b', o' + (k * 7 + 0), none⟩) hb' (by simp)).trans (hcell' 0 (by omega)))
        have cp1 : ∀ n : Ext wr, n.W.cell? ⟨b', o' + k * 7 + 1, none⟩ = some p1 := fun n => n.cell ((hU.cell (p := ⟨b', o' + (k * 7 + 1), none⟩) hb' (by simp)).trans (hcell' 1 (by omega)))
        have cp2 : ∀ n : Ext wr, n.W.cell? ⟨b', o' + k * 7 + 2, none⟩ = some p2 := fun n => n.cell ((hU.cell (p := ⟨b', o' + (k * 7 + 2), none⟩) hb' (by simp)).trans (hcell' 2 (by omega)))
        have cp3 : ∀ n : Ext wr, n.W.cell? ⟨b', o' + k * 7 + 3, none⟩ = some p3 := fun n => n.cell ((hU.cell (p := ⟨b', o' + (k * 7 + 3), none⟩) hb' (by simp)).trans (hcell' 3 (by omega)))
        have cp4 : ∀ n : Ext wr, n.W.cell? ⟨b', o' + k * 7 + 4, none⟩ = some p4 := fun n => n.cell ((hU.cell (p := ⟨b', o' + (k * 7 + 4), none⟩) hb' (by simp)).trans (hcell' 4 (by omega)))
        have cp5 : ∀ n : Ext wr, n.W.cell? ⟨b', o' + k * 7 + 5, none⟩ = some p5 := fun n => n.cell ((hU.cell (p := ⟨b', o' + (k * 7 + 5), none⟩) hb' (by simp)).trans (hcell' 5 (by omega)))
        have cp6 : ∀ n : Ext wr, n.W.cell? ⟨b', o' + k * 7 + 6, none⟩ = some p6 := fun n => n.cell ((hU.cell (p := ⟨b', o' + (k * 7 + 6), none⟩) hb' (by simp)).trans (hcell' 6 (by omega)))
        have hne : Nonempty (Ext wr) := ⟨⟨wr, Upd.refl [] wr⟩⟩
        have HU : Hid (Upd [] w wr) := hU
        have HZ : Hid (ordT I[k] J[k] = z) := hz
        clear hc hc' hcell hcell' hin hin' hU hz
        go_wp2_with fail
        refine wp_region_ext (by kernel_rfl) (by kernel_rfl) ?_
        repeat (go_big_quiet_step (first | (go_at_call 65; exact Ext.call (HC.out _))))
        refine wpQuiet_nil ?_
        intro _ hw'
        obtain ⟨nx, hw''⟩ := hw'
        subst hw''
        have HU2 : Hid (Upd [] w nx.W) := HU.out.trans nx.h
        clear HC cq0 cq1 cq2 cq3 cq4 cq5 cq6 cp0 cp1 cp2 cp3 cp4 cp5 cp6 hne
        by_cases hz0 : z = 0
        · have zb : (z != 0) = false := by simp [hz0]
          have HZ0 : Hid (z = 0) := hz0
          clear hz0
          go_wp2
          go_roundw
          case rel => exact ⟨k + 1, by omega, by omega, by go_num, by rw [HEQ.out, rwZ_drop I J k hlt hlt', HZ.out, HZ0.out, th_z], HU2.out⟩
          case measure => simp [intOf]; omega
        · have zb : (z != 0) = true := by simp [hz0]
          have HZ0 : Hid (¬ z = 0) := hz0
          clear hz0
          go_wp2
          go_ret
          refine ⟨?_, HU2.out⟩
          rw [HEQ.out, rwZ_drop I J k hlt hlt', HZ.out]
          unfold th
          rw [if_neg HZ0.out]
          rfl
      · have hd : decide ((k : Int) < (J.length : Int)) = false := by simp; omega
        have HU : Hid (Upd [] w wr) := hU
        clear hU
        go_wp2
        go_ret
        refine ⟨?_, HU.out⟩
        rw [HEQ.out, List.drop_of_length_le (l := J) (by omega), rwZ_nil]
        rfl
    · have hd : decide ((k : Int) < (I.length : Int)) = false := by simp; omega
      have HU : Hid (Upd [] w wr) := hU
      clear hU
      go_wp2
      go_ret
      refine ⟨?_, HU.out⟩
      rw [HEQ.out, List.drop_of_length_le (l := I) (by omega)]
      rfl

end Go.Proofs.YtaoipmmeialpnaaGreatDoor
